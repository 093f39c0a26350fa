/-
  The contracts of vec's Axpy, of slices.Clone and of vec's Clip.
-/
import Derived.Test.YtldnnjcfihjkdaaDoorPWalkF
import Derived.Test.YtldnnjcfihjkdaaDoorLawVN
import Derived.Lib.SliceRun
set_option linter.unusedVariables false
set_option linter.unusedSimpArgs false
namespace Go.Proofs.YtldnnjcfihjkdaaDoor
open Go.RowKit


set_option maxHeartbeats 2000000 in
theorem Axpy_un (k : Int) (va vb : Value) (n m : Nat) (f g : Nat → Int) (d : Nat) (c : Int) (w : World) (k0 : -9223372036854775808 ≤ k) (k1 : k ≤ 9223372036854775807) (hn : n ≤ 70000) (hm : m ≤ 70000) (c0 : 0 ≤ c) (c1 : c ≤ 800000000) (hA : Ar w va n f) (hB : Ar w vb m g) (ha : Nb va d) (hb : Nb vb d) (hU : Uc w d c) :
    Calls Tryd.prog 26 #[.pointer (some ⟨d, 0, none⟩), .int .i64 k, va, vb] w fun e w' => ∃ v', e = .returned (.tuple #[v', .int .i64 (dE n m)]) ∧ LL w w' v' n (fun i => clv (rr (k * f i + g i * 4294967296) 32)) (dE n m) ∧ Un d (c + cE (dE n m) (cntV (fun i => ovv (rr (k * f i + g i * 4294967296) 32)) n)) w w' := by
  obtain ⟨ada, ca, ba, oa, rfl, x1, x2, -, -⟩ := id hA
  obtain ⟨adb, cb, bb, ob, rfl, y1, y2, -, -⟩ := id hB
  have hb2 := bel2 w (.cells #[.pointer (some ⟨d, 0, none⟩)] 25) (.cells #[.int .i64 k] 33)
  have hb0 := bchain hb2 (bel1 _ (.cells #[.slice ada n ca, .slice adb m cb] 22))
  have cu : (((w.alloc (.cells #[.pointer (some ⟨d, 0, none⟩)] 25)).alloc (.cells #[.int .i64 k] 33)).alloc (.cells #[.slice ada n ca, .slice adb m cb] 22)).cell? ⟨w.heap.size, 0, none⟩ = some (.pointer (some ⟨d, 0, none⟩)) := cell_later (bel1 _ _) (cell_later (bel1 _ _) (cell_new1 w _ _))
  have ck : (((w.alloc (.cells #[.pointer (some ⟨d, 0, none⟩)] 25)).alloc (.cells #[.int .i64 k] 33)).alloc (.cells #[.slice ada n ca, .slice adb m cb] 22)).cell? ⟨w.heap.size + 1, 0, none⟩ = some (.int .i64 k) := by have h := cell_new1 (w.alloc (.cells #[.pointer (some ⟨d, 0, none⟩)] 25)) (.int .i64 k) 33; rw [World.size_alloc] at h; exact cell_later (bel1 _ _) h
  have hmf := hmf_any
  obtain ⟨hc, hf⟩ := hU
  have hd := World.block_lt_of_cell? _ _ hc
  dsimp only at hd
  have hc' := cell_later hb0 hc
  have hf' := frozen_later hb0 hc hf
  have CP : Hid (Calls Tryd.prog 59 #[.slice ada n ca, .slice adb m cb, .func (.func 62) #[] #[.pointer (some ⟨w.heap.size + 1, 0, none⟩), .pointer (some ⟨w.heap.size, 0, none⟩)]] ((w.alloc (.cells #[.pointer (some ⟨d, 0, none⟩)] 25)).alloc (.cells #[.int .i64 k] 33)) fun e w' => ∃ (ad : Option Addr) (l cp : Nat), e = .returned (.tuple #[.slice ad l cp, .int .i64 (dE n m)]) ∧ (dE n m = 0 → (fun v' w' => LL w w' v' n (fun i => clv (rr (k * f i + g i * 4294967296) 32)) 0 ∧ Un d (c + (cntV (fun i => ovv (rr (k * f i + g i * 4294967296) 32)) n)) w w') (.slice ad l cp) w') ∧ (dE n m ≠ 0 → ad = none ∧ l = 0 ∧ cp = 0 ∧ w' = (((w.alloc (.cells #[.pointer (some ⟨d, 0, none⟩)] 25)).alloc (.cells #[.int .i64 k] 33)).alloc (.cells #[.slice ada n ca, .slice adb m cb] 22)))) := by
    refine paired_of _ ada adb n m ca cb hn hm ((w.alloc (.cells #[.pointer (some ⟨d, 0, none⟩)] 25)).alloc (.cells #[.int .i64 k] 33)) (fun v' w' => LL w w' v' n (fun i => clv (rr (k * f i + g i * 4294967296) 32)) 0 ∧ Un d (c + (cntV (fun i => ovv (rr (k * f i + g i * 4294967296) 32)) n)) w w') ?_
    intro hnm hl
    subst hnm
    have hsz : (((w.alloc (.cells #[.pointer (some ⟨d, 0, none⟩)] 25)).alloc (.cells #[.int .i64 k] 33)).alloc (.cells #[.slice ada n ca, .slice adb n cb] 22)).heap.size = w.heap.size + 3 := by simp
    have h := pairs_Axpy (.pointer (some ⟨w.heap.size + 1, 0, none⟩)) (.pointer (some ⟨w.heap.size, 0, none⟩)) (fun j W => Un d (c + cntV (fun i => ovv (rr (k * f i + g i * 4294967296) 32)) j) (((w.alloc (.cells #[.pointer (some ⟨d, 0, none⟩)] 25)).alloc (.cells #[.int .i64 k] 33)).alloc (.cells #[.slice ada n ca, .slice adb n cb] 22)) W) _ _ n f g (fun i => clv (rr (k * f i + g i * 4294967296) 32)) (((w.alloc (.cells #[.pointer (some ⟨d, 0, none⟩)] 25)).alloc (.cells #[.int .i64 k] 33)).alloc (.cells #[.slice ada n ca, .slice adb n cb] 22)) hn (hA.later hb0) (hB.later hb0) (by simpa [cntV] using Un.same hc' hf') (fun j W W' h hb => h.ahead hb) (fun j W a x hx h => h.setnew a x (by rw [hsz]; omega) hx) (fun j W h => ⟨(hA.later hb0).un ha h, (hB.later hb0).un hb h⟩) (fun j _ => clv_fit _) (fun j W hj hW h => by
      have r := cnt_rng (fun i => ovv (rr (k * f i + g i * 4294967296) 32)) j
      obtain ⟨_, _, _, _, _, _, _, _, hx⟩ := hA
      obtain ⟨_, _, _, _, _, _, _, _, hy⟩ := hB
      have hx := (hx j hj).2
      have hy := (hy j hj).2
      refine (ax1_un k (f j) (g j) k0 k1 hx.1 hx.2 hy.1 hy.2 (w.heap.size + 1) w.heap.size d _ (by omega) (by omega) W h.c h.f (h.o _ _ (by dsimp only; omega) ck) (h.o _ _ (by dsimp only; omega) cu)).mono ?_
      rintro e w' ⟨rfl, hU⟩
      refine ⟨rfl, ?_, hU.k _ (by omega) (by rw [hsz]; omega), hU.s⟩
      have e1 : c + cntV (fun i => ovv (rr (k * f i + g i * 4294967296) 32)) (j + 1) = c + cntV (fun i => ovv (rr (k * f i + g i * 4294967296) 32)) j + bi (ovv (rr (k * f j + g j * 4294967296) 32)) := by rw [Int.add_assoc]; rfl
      show Un d (c + cntV (fun i => ovv (rr (k * f i + g i * 4294967296) 32)) (j + 1)) _ w'
      rw [e1]
      exact h.chain hU)
    refine h.mono ?_
    rintro e w' ⟨rfl, hS, hX⟩
    exact ⟨_, rfl, ⟨fun _ => hX, fun h => absurd rfl h, fun a n' cap' e _ => (by cases e; simp; omega)⟩, Un.after hb0 hS⟩
  have HU : Hid (Un d c w (((w.alloc (.cells #[.pointer (some ⟨d, 0, none⟩)] 25)).alloc (.cells #[.int .i64 k] 33)).alloc (.cells #[.slice ada n ca, .slice adb m cb] 22))) := Un.after hb0 (Un.same hc' hf')
  clear hA hB ha hb hc hf hc' hf' hb0 hb2 cu ck
  go_enter Tryd.func26, Tryd.ntmps26
  go_wp2_with fail
  refine CP.out.mono ?_
  rintro e w1 ⟨ad, l, cp, rfl, hQ, hN⟩
  have HQN : Hid ((dE n m = 0 → (fun v' w' => LL w w' v' n (fun i => clv (rr (k * f i + g i * 4294967296) 32)) 0 ∧ Un d (c + (cntV (fun i => ovv (rr (k * f i + g i * 4294967296) 32)) n)) w w') (.slice ad l cp) w1) ∧ (dE n m ≠ 0 → ad = none ∧ l = 0 ∧ cp = 0 ∧ w1 = (((w.alloc (.cells #[.pointer (some ⟨d, 0, none⟩)] 25)).alloc (.cells #[.int .i64 k] 33)).alloc (.cells #[.slice ada n ca, .slice adb m cb] 22)))) := ⟨hQ, hN⟩
  clear CP hQ hN
  go_wp2
  go_ret2
  by_cases hE : dE n m = 0
  · obtain ⟨h1, h2⟩ := HQN.out.1 hE
    rw [hE]
    exact ⟨_, rfl, h1, (by unfold cE; rw [if_pos rfl]; exact h2)⟩
  · obtain ⟨rfl, rfl, rfl, rfl⟩ := HQN.out.2 hE
    exact ⟨_, rfl, ⟨fun h => absurd h hE, fun _ => ⟨none, 0, rfl⟩, fun a n' cap' e => (by cases e)⟩, (by unfold cE; rw [if_neg hE, Int.add_zero]; exact HU.out)⟩

set_option maxHeartbeats 2000000 in
theorem Axpy_nil (k : Int) (va vb : Value) (n m : Nat) (f g : Nat → Int) (w : World) (k0 : -9223372036854775808 ≤ k) (k1 : k ≤ 9223372036854775807) (hn : n ≤ 70000) (hm : m ≤ 70000) (hA : Ar w va n f) (hB : Ar w vb m g) :
    Calls Tryd.prog 26 #[.pointer none, .int .i64 k, va, vb] w fun e w' => ∃ v', e = .returned (.tuple #[v', .int .i64 (dE n m)]) ∧ LL w w' v' n (fun i => clv (rr (k * f i + g i * 4294967296) 32)) (dE n m) ∧ Below w.heap.size w w' := by
  obtain ⟨ada, ca, ba, oa, rfl, x1, x2, -, -⟩ := id hA
  obtain ⟨adb, cb, bb, ob, rfl, y1, y2, -, -⟩ := id hB
  have hb2 := bel2 w (.cells #[.pointer none] 25) (.cells #[.int .i64 k] 33)
  have hb0 := bchain hb2 (bel1 _ (.cells #[.slice ada n ca, .slice adb m cb] 22))
  have cu : (((w.alloc (.cells #[.pointer none] 25)).alloc (.cells #[.int .i64 k] 33)).alloc (.cells #[.slice ada n ca, .slice adb m cb] 22)).cell? ⟨w.heap.size, 0, none⟩ = some (.pointer none) := cell_later (bel1 _ _) (cell_later (bel1 _ _) (cell_new1 w _ _))
  have ck : (((w.alloc (.cells #[.pointer none] 25)).alloc (.cells #[.int .i64 k] 33)).alloc (.cells #[.slice ada n ca, .slice adb m cb] 22)).cell? ⟨w.heap.size + 1, 0, none⟩ = some (.int .i64 k) := by have h := cell_new1 (w.alloc (.cells #[.pointer none] 25)) (.int .i64 k) 33; rw [World.size_alloc] at h; exact cell_later (bel1 _ _) h
  have hmf := hmf_any
  have CP : Hid (Calls Tryd.prog 59 #[.slice ada n ca, .slice adb m cb, .func (.func 62) #[] #[.pointer (some ⟨w.heap.size + 1, 0, none⟩), .pointer (some ⟨w.heap.size, 0, none⟩)]] ((w.alloc (.cells #[.pointer none] 25)).alloc (.cells #[.int .i64 k] 33)) fun e w' => ∃ (ad : Option Addr) (l cp : Nat), e = .returned (.tuple #[.slice ad l cp, .int .i64 (dE n m)]) ∧ (dE n m = 0 → (fun v' w' => LL w w' v' n (fun i => clv (rr (k * f i + g i * 4294967296) 32)) 0 ∧ Below w.heap.size w w') (.slice ad l cp) w') ∧ (dE n m ≠ 0 → ad = none ∧ l = 0 ∧ cp = 0 ∧ w' = (((w.alloc (.cells #[.pointer none] 25)).alloc (.cells #[.int .i64 k] 33)).alloc (.cells #[.slice ada n ca, .slice adb m cb] 22)))) := by
    refine paired_of _ ada adb n m ca cb hn hm ((w.alloc (.cells #[.pointer none] 25)).alloc (.cells #[.int .i64 k] 33)) (fun v' w' => LL w w' v' n (fun i => clv (rr (k * f i + g i * 4294967296) 32)) 0 ∧ Below w.heap.size w w') ?_
    intro hnm hl
    subst hnm
    have hsz : (((w.alloc (.cells #[.pointer none] 25)).alloc (.cells #[.int .i64 k] 33)).alloc (.cells #[.slice ada n ca, .slice adb n cb] 22)).heap.size = w.heap.size + 3 := by simp
    have h := pairs_Axpy (.pointer (some ⟨w.heap.size + 1, 0, none⟩)) (.pointer (some ⟨w.heap.size, 0, none⟩)) (fun j W => Below (((w.alloc (.cells #[.pointer none] 25)).alloc (.cells #[.int .i64 k] 33)).alloc (.cells #[.slice ada n ca, .slice adb n cb] 22)).heap.size (((w.alloc (.cells #[.pointer none] 25)).alloc (.cells #[.int .i64 k] 33)).alloc (.cells #[.slice ada n ca, .slice adb n cb] 22)) W) _ _ n f g (fun i => clv (rr (k * f i + g i * 4294967296) 32)) (((w.alloc (.cells #[.pointer none] 25)).alloc (.cells #[.int .i64 k] 33)).alloc (.cells #[.slice ada n ca, .slice adb n cb] 22)) hn (hA.later hb0) (hB.later hb0) (Below.refl _ _) (fun j W W' h hb => bchain h hb) (fun j W a x hx h => h.setCell hx _) (fun j W h => ⟨(hA.later hb0).later h, (hB.later hb0).later h⟩) (fun j _ => clv_fit _) (fun j W hj hW h => by
      obtain ⟨_, _, _, _, _, _, _, _, hx⟩ := hA
      obtain ⟨_, _, _, _, _, _, _, _, hy⟩ := hB
      have hx := (hx j hj).2
      have hy := (hy j hj).2
      refine (ax1_nil k (f j) (g j) k0 k1 hx.1 hx.2 hy.1 hy.2 (w.heap.size + 1) w.heap.size W (cell_later h ck) (cell_later h cu)).mono ?_
      rintro e w' ⟨rfl, hb⟩
      exact ⟨rfl, bchain h hb, hb.block _ hW, hb.size⟩)
    refine h.mono ?_
    rintro e w' ⟨rfl, hS, hX⟩
    exact ⟨_, rfl, ⟨fun _ => hX, fun h => absurd rfl h, fun a n' cap' e _ => (by cases e; simp; omega)⟩, bchain hb0 hS⟩
  have HU : Hid (Below w.heap.size w (((w.alloc (.cells #[.pointer none] 25)).alloc (.cells #[.int .i64 k] 33)).alloc (.cells #[.slice ada n ca, .slice adb m cb] 22))) := hb0
  clear hA hB hb0 hb2 cu ck
  go_enter Tryd.func26, Tryd.ntmps26
  go_wp2_with fail
  refine CP.out.mono ?_
  rintro e w1 ⟨ad, l, cp, rfl, hQ, hN⟩
  have HQN : Hid ((dE n m = 0 → (fun v' w' => LL w w' v' n (fun i => clv (rr (k * f i + g i * 4294967296) 32)) 0 ∧ Below w.heap.size w w') (.slice ad l cp) w1) ∧ (dE n m ≠ 0 → ad = none ∧ l = 0 ∧ cp = 0 ∧ w1 = (((w.alloc (.cells #[.pointer none] 25)).alloc (.cells #[.int .i64 k] 33)).alloc (.cells #[.slice ada n ca, .slice adb m cb] 22)))) := ⟨hQ, hN⟩
  clear CP hQ hN
  go_wp2
  go_ret2
  by_cases hE : dE n m = 0
  · obtain ⟨h1, h2⟩ := HQN.out.1 hE
    rw [hE]
    exact ⟨_, rfl, h1, h2⟩
  · obtain ⟨rfl, rfl, rfl, rfl⟩ := HQN.out.2 hE
    exact ⟨_, rfl, ⟨fun h => absurd h hE, fun _ => ⟨none, 0, rfl⟩, fun a n' cap' e => (by cases e)⟩, HU.out⟩

theorem vec2 : Vec2 where   -- 24
  scaleU := fun k va n f d c w k0 k1 hn c0 c1 _ hA ha hU => Scale_un k va n f d c w k0 k1 hn c0 c1 hA ha hU
  addU := fun va vb n m f g d c w hn hm c0 c1 _ hA hB ha hb hU => Add_un va vb n m f g d c w hn hm c0 c1 hA hB ha hb hU
  subU := fun va vb n m f g d c w hn hm c0 c1 _ hA hB ha hb hU => Sub_un va vb n m f g d c w hn hm c0 c1 hA hB ha hb hU
  axpyU := fun k va vb n m f g d c w k0 k1 hn hm c0 c1 _ hA hB ha hb hU => Axpy_un k va vb n m f g d c w k0 k1 hn hm c0 c1 hA hB ha hb hU

set_option maxRecDepth 100000 in
set_option maxHeartbeats 2000000 in
theorem clone_any (va : Value) (n : Nat) (f : Nat → Int) (hn : n ≤ 70000) (w : World) (hA : Ar w va n f) :
    Calls Tryd.prog 80 #[va] w fun e w' => ∃ (ad : Option Addr) (cap : Nat), e = .returned (.slice ad n cap) ∧ Ar w' (.slice ad n cap) n f ∧ Ow w.heap.size (.slice ad n cap) ∧ Below w.heap.size w w' := by
  obtain ⟨i0, hi, hz0, hz1, hz2⟩ := info_parts dinfo_fx
  have qT : ∀ (w : World) (a : Option Addr) (n c n' c' : Nat), (binOp .eql 22 (.slice a n c) (.slice none n' c')).run Tryd.prog w = .ok (.bool a.isNone) w := fun w a n c n' c' => Lib.run_eql_slice_nil w _ _ a n c n' c' Tryd.underlying22
  obtain ⟨adr, cap, b, o, rfl, k1, k2, k3, k4⟩ := hA
  unfold maxLen at k2
  have HB : Hid (∀ k, k < n → -9223372036854775808 ≤ f k ∧ f k ≤ 9223372036854775807) := fun k hk => (k4 k hk).2
  cases adr with
  | none =>
    obtain rfl : n = 0 := by
      rcases Nat.eq_zero_or_pos n with h | h
      · exact h
      · cases k3 h
    clear k3 k4
    go_enter Tryd.func80, Tryd.ntmps80
    go_wp2
    go_ret
    exact ⟨none, 0, rfl, ⟨none, 0, 0, 0, rfl, by omega, by unfold maxLen; omega, fun h => by omega, fun k hk => by omega⟩, fun a n cap e => (by cases e), Below.refl _ _⟩
  | some a =>
    have HC : Hid (∀ (j : Nat) (u : Value), (il f n)[j]? = some u → w.cell? (a.add j) = some u) := fun j u hj => by
      have hjn : j < n := by
        have := (List.getElem?_eq_some_iff.1 hj).1
        rw [il_len] at this
        exact this
      have e := Option.some.inj (k3 (by omega))
      subst e
      rw [il_get f n j hjn] at hj
      rw [Addr.add_lit, ← hj]
      exact (k4 j hjn).1
    clear k3 k4
    go_enter Tryd.func80, Tryd.ntmps80
    go_wp2_with (at_builtin; refine wpList_append_own _ rfl _ _ 22 rfl w.heap.size 33 i0 (.int .i64 0) 1 8 Tryd.underlying22 hi hz0 hz1 hz2 rfl (by decide) _ _ _ rfl (World.ownsRow_made w #[] 0 (Nat.le_refl _) (Nat.zero_le _) (by simp)) a n cap (il f n) rfl ?qc1 ?qc2 ?qc3 ?qc4 ?qc5 ?qc6 ?_)
    case qc1 => rw [il_len, Nat.mul_one]
    case qc2 =>
      intro j u hj
      exact cell_later (bel1 w _) (HC.out j u hj)
    case qc3 =>
      intro u hu
      unfold il at hu
      obtain ⟨k, _, rfl⟩ := List.mem_map.1 hu
      rfl
    case qc4 => unfold maxLen; omega
    case qc5 => omega
    case qc6 => simp
    intro v' w1 hown hgrow hnil
    have HO : Hid (Ar w1 v' n f ∧ Ow w.heap.size v') := ar_of_own (by simpa using hown) HB.out
    have HW : Hid (Below w.heap.size w w1) := ((Below.refl _ w).alloc (Nat.le_refl _) _).grown hgrow (by simp) (by intro k hk; simp [Value.ownBlock] at hk; omega)
    clear hown hgrow hnil HC
    obtain ⟨ad', cap', -, -, rfl, -, -, -, -⟩ := id HO.out.1
    go_wp2
    go_ret
    exact ⟨ad', cap', rfl, HO.out.1, HO.out.2, HW.out⟩

set_option maxHeartbeats 4000000 in
theorem Clip_un (most : Int) (va : Value) (n : Nat) (f : Nat → Int) (d : Nat) (c : Int) (w : World) (m0 : -9223372036854775808 ≤ most) (m1 : most ≤ 9223372036854775807) (hn : n ≤ 70000) (c0 : 0 ≤ c) (c1 : c ≤ 800000000) (hA : Ar w va n f) (ha : Nb va d) (hU : Uc w d c) :
    Calls Tryd.prog 42 #[.pointer (some ⟨d, 0, none⟩), va, .int .i64 most] w fun e w' => ∃ v', e = .returned (.tuple #[v', .bool (cpB most n f && decide (sE n = 0)), .int .i64 (sE n)]) ∧ LL w w' v' n (cpF most n f) (sE n) ∧ Un d (c + cE (sE n) (cpN most n f)) w w' := by
  obtain ⟨ada, ca, ba, oa, rfl, x1, x2, -, -⟩ := id hA
  have hb0 := bel1 w (.cells #[.slice ada n ca] 22)
  obtain ⟨hc, hf⟩ := hU
  have hd := World.block_lt_of_cell? _ _ hc
  dsimp only at hd
  have hc' := cell_later hb0 hc
  have hf' := frozen_later hb0 hc hf
  unfold maxLen at *
  by_cases hl : n ≤ 65536
  · have hE : sE n = 0 := by unfold sE; rw [if_neg (by omega)]
    have CK : Hid (Calls Tryd.prog 46 #[.bool true, .slice (some ⟨w.heap.size, 0, none⟩) 1 1] (w.alloc (.cells #[.slice ada n ca] 22)) fun e w' => e = .returned (.int .i64 0) ∧ w' = (w.alloc (.cells #[.slice ada n ca] 22))) := by
      have h := check1_any true w ada n ca (by unfold maxLen; omega)
      rw [if_neg (by omega), if_pos rfl] at h
      exact h
    have HA1 : Hid (Ar (w.alloc (.cells #[.slice ada n ca] 22)) (.slice ada n ca) n f) := hA.later hb0
    have HU1 : Hid (Un d c w (w.alloc (.cells #[.slice ada n ca] 22))) := Un.after hb0 (Un.same hc' hf')
    have HNb : Hid (Nb (.slice ada n ca) d) := ha
    rw [hE, show (cpB most n f && decide ((0 : Int) = 0)) = cpB most n f by simp]
    rw [show c + cE 0 (cpN most n f) = c + cpN most n f by unfold cE; rw [if_pos rfl]]
    have hsT : (w.alloc (.cells #[.slice ada n ca] 22)).heap.size = w.heap.size + 1 := by simp
    clear hA ha hc hf hc' hf' hE hb0
    by_cases h0 : 0 < most
    · have h0' : ¬ most ≤ 0 := by omega
      have CN : Hid (∀ W : World, Ar W (.slice ada n ca) n f → W.cell? ⟨d, 0, none⟩ = some (.int .i64 c) → W.frozen? ⟨d, 0, none⟩ = false → Calls Tryd.prog 78 #[.pointer (some ⟨d, 0, none⟩), .slice ada n ca] W fun e w' => e = .returned (.int .i64 (rtX (dotV f f n))) ∧ Un d (c + bi (rtO (dotV f f n))) W w') := fun W h a b => vnorm_un _ n f hn d c c0 (by omega) W h a b
      obtain ⟨N0, N1⟩ := rtX_rng (dotV f f n)
      have rb := bi_rng (rtO (dotV f f n))
      have HB : Hid (cpB most n f = decide (most < rtX (dotV f f n))) := by show _ = _; unfold cpB; simp [h0]
      have HK : Hid (cpK most n f = qv (most * 4294967296) (rtX (dotV f f n)) ∧ cpO most n f = qo (most * 4294967296) (rtX (dotV f f n))) := ⟨rfl, rfl⟩
      have HM : Hid (cpN most n f = (if cpB most n f = true then bi (rtO (dotV f f n)) + bi (cpO most n f) + cntV (fun i => ovv (rnd (cpK most n f * f i) 32)) n else bi (rtO (dotV f f n)))) := by show _ = _; unfold cpN; rw [if_pos h0]
      generalize rtX (dotV f f n) = N at *
      generalize bi (rtO (dotV f f n)) = z at *
      by_cases h1 : most < N
      · have h1' : ¬ N ≤ most := by omega
        have HB2 : Hid (cpB most n f = true) := by show _ = _; rw [HB.out, decide_eq_true h1]
        have CD : Hid (∀ W : World, W.cell? ⟨d, 0, none⟩ = some (.int .i64 (c + z)) → W.frozen? ⟨d, 0, none⟩ = false → Calls Tryd.prog 81 #[.pointer (some ⟨d, 0, none⟩), .int .i64 most, .int .i64 N] W fun e w' => e = .returned (.int .i64 (cpK most n f)) ∧ Un d (c + z + bi (cpO most n f)) W w') := by
          rw [HK.out.1, HK.out.2]
          exact fun W a b => uDiv_un most N m0 m1 (by omega) (by omega) d (c + z) (by omega) (by omega) W a b
        obtain ⟨K0, K1⟩ := qv_rng (most * 4294967296) N
        rw [← HK.out.1] at K0 K1
        have ro := bi_rng (cpO most n f)
        have CS : Hid (∀ W : World, Ar W (.slice ada n ca) n f → W.cell? ⟨d, 0, none⟩ = some (.int .i64 (c + z + bi (cpO most n f))) → W.frozen? ⟨d, 0, none⟩ = false → Calls Tryd.prog 56 #[.pointer (some ⟨d, 0, none⟩), .int .i64 (cpK most n f), .slice ada n ca] W fun e w' => e = .returned (.slice (some ⟨W.heap.size + 2, 0, none⟩) n n) ∧ Ar w' (.slice (some ⟨W.heap.size + 2, 0, none⟩) n n) n (fun i => clv (rnd (cpK most n f * f i) 32)) ∧ Un d (c + z + bi (cpO most n f) + cntV (fun i => ovv (rnd (cpK most n f * f i) 32)) n) W w') := fun W h a b => scaled_un (cpK most n f) K0 K1 _ n f hn d _ (by omega) (by omega) W h HNb.out a b
        have HF : Hid (cpF most n f = fun i => clv (rnd (cpK most n f * f i) 32)) := by show _ = _; funext i; unfold cpF; rw [if_pos HB2.out]
        have HM2 : Hid (cpN most n f = z + bi (cpO most n f) + cntV (fun i => ovv (rnd (cpK most n f * f i) 32)) n) := by show _ = _; rw [HM.out, if_pos HB2.out]
        clear HB HK HM
        rw [HB2.out, HF.out, HM2.out]
        rw [show c + (z + bi (cpO most n f) + cntV (fun i => ovv (rnd (cpK most n f * f i) 32)) n) = c + z + bi (cpO most n f) + cntV (fun i => ovv (rnd (cpK most n f * f i) 32)) n by omega]
        clear HB2 HF HM2 ro
        generalize cntV (fun i => ovv (rnd (cpK most n f * f i) 32)) n = zz at *
        generalize bi (cpO most n f) = zy at *
        generalize cpK most n f = K at *
        go_enter Tryd.func42, Tryd.ntmps42
        go_wp2_with fail
        refine CK.out.mono ?_
        rintro e w1 ⟨rfl, hz⟩
        subst hz
        clear CK
        go_wp2_with fail
        refine (CN.out _ HA1.out HU1.out.c HU1.out.f).mono ?_
        rintro e w2 ⟨rfl, h2⟩
        have HA2 : Hid (Ar w2 (.slice ada n ca) n f) := HA1.out.un HNb.out h2
        have HU2 : Hid (Un d (c + z) w w2) := HU1.out.chain h2
        clear h2 CN HA1 HU1
        go_wp2_with fail
        refine (CD.out _ HU2.out.c HU2.out.f).mono ?_
        rintro e w3 ⟨rfl, h3⟩
        have HA3 : Hid (Ar w3 (.slice ada n ca) n f) := HA2.out.un HNb.out h3
        have HU3 : Hid (Un d (c + z + zy) w w3) := HU2.out.chain h3
        clear h3 CD HA2 HU2
        go_wp2_with fail
        refine (CS.out _ HA3.out HU3.out.c HU3.out.f).mono ?_
        rintro e w4 ⟨rfl, hX, h4⟩
        have HX : Hid (Ar w4 (.slice (some ⟨w3.heap.size + 2, 0, none⟩) n n) n (fun i => clv (rnd (K * f i) 32))) := hX
        have HU4 : Hid (Un d (c + z + zy + zz) w w4) := HU3.out.chain h4
        have hs3 : w.heap.size ≤ w3.heap.size := HU3.out.s
        clear h4 CS HA3 HU3 hX
        go_wp2
        go_ret3
        exact ⟨_, rfl, ⟨fun _ => HX.out, fun h => absurd rfl h, fun a n' cap' e _ => (by cases e; show w.heap.size ≤ w3.heap.size + 2; omega)⟩, HU4.out⟩
      · have h1' : N ≤ most := by omega
        have HB2 : Hid (cpB most n f = false) := by show _ = _; rw [HB.out, decide_eq_false h1]
        have CC : Hid (∀ W : World, Ar W (.slice ada n ca) n f → Calls Tryd.prog 80 #[.slice ada n ca] W fun e w' => ∃ (ad : Option Addr) (cap : Nat), e = .returned (.slice ad n cap) ∧ Ar w' (.slice ad n cap) n f ∧ Ow W.heap.size (.slice ad n cap) ∧ Below W.heap.size W w') := fun W h => clone_any _ n f hn W h
        have HF : Hid (cpF most n f = f) := by show _ = _; funext i; unfold cpF; rw [if_neg (by rw [HB2.out]; decide)]
        have HM2 : Hid (cpN most n f = z) := by show _ = _; rw [HM.out, if_neg (by rw [HB2.out]; decide)]
        clear HB HK HM
        rw [HB2.out, HF.out, HM2.out]
        clear HB2 HF HM2
        go_enter Tryd.func42, Tryd.ntmps42
        go_wp2_with fail
        refine CK.out.mono ?_
        rintro e w1 ⟨rfl, hz⟩
        subst hz
        clear CK
        go_wp2_with fail
        refine (CN.out _ HA1.out HU1.out.c HU1.out.f).mono ?_
        rintro e w2 ⟨rfl, h2⟩
        have HA2 : Hid (Ar w2 (.slice ada n ca) n f) := HA1.out.un HNb.out h2
        have HU2 : Hid (Un d (c + z) w w2) := HU1.out.chain h2
        clear h2 CN HA1 HU1
        go_wp2_with fail
        refine (CC.out _ HA2.out).mono ?_
        rintro e w4 ⟨ad, cap, rfl, hX, hO, h4⟩
        have HX : Hid (Ar w4 (.slice ad n cap) n f ∧ Ow w.heap.size (.slice ad n cap)) := ⟨hX, hO.mono HU2.out.s⟩
        have HU4 : Hid (Un d (c + z) w w4) := HU2.out.ahead h4
        clear h4 CC HA2 HU2 hX hO
        go_wp2
        go_ret3
        exact ⟨_, rfl, ⟨fun _ => HX.out.1, fun h => absurd rfl h, HX.out.2⟩, HU4.out⟩
    · have h0' : most ≤ 0 := by omega
      have HB2 : Hid (cpB most n f = false) := by show _ = _; unfold cpB; simp [h0]
      have CC : Hid (∀ W : World, Ar W (.slice ada n ca) n f → Calls Tryd.prog 80 #[.slice ada n ca] W fun e w' => ∃ (ad : Option Addr) (cap : Nat), e = .returned (.slice ad n cap) ∧ Ar w' (.slice ad n cap) n f ∧ Ow W.heap.size (.slice ad n cap) ∧ Below W.heap.size W w') := fun W h => clone_any _ n f hn W h
      have HF : Hid (cpF most n f = f) := by show _ = _; funext i; unfold cpF; rw [if_neg (by rw [HB2.out]; decide)]
      have HM2 : Hid (cpN most n f = 0) := by show _ = _; unfold cpN; rw [if_neg h0]
      rw [HB2.out, HF.out, HM2.out, Int.add_zero]
      clear HB2 HF HM2
      go_enter Tryd.func42, Tryd.ntmps42
      go_wp2_with fail
      refine CK.out.mono ?_
      rintro e w1 ⟨rfl, hz⟩
      subst hz
      clear CK
      go_wp2_with fail
      refine (CC.out _ HA1.out).mono ?_
      rintro e w4 ⟨ad, cap, rfl, hX, hO, h4⟩
      have HX : Hid (Ar w4 (.slice ad n cap) n f ∧ Ow w.heap.size (.slice ad n cap)) := ⟨hX, hO.mono (by simp)⟩
      have HU4 : Hid (Un d (c) w w4) := HU1.out.ahead h4
      clear h4 CC HA1 HU1 hX hO
      go_wp2
      go_ret3
      exact ⟨_, rfl, ⟨fun _ => HX.out.1, fun h => absurd rfl h, HX.out.2⟩, HU4.out⟩
  · have hE : sE n = 3 := by unfold sE; rw [if_pos (by omega)]
    have CK : Hid (Calls Tryd.prog 46 #[.bool true, .slice (some ⟨w.heap.size, 0, none⟩) 1 1] (w.alloc (.cells #[.slice ada n ca] 22)) fun e w' => e = .returned (.int .i64 3) ∧ w' = (w.alloc (.cells #[.slice ada n ca] 22))) := by
      have h := check1_any true w ada n ca (by unfold maxLen; omega)
      rw [if_pos (by omega)] at h
      exact h
    rw [hE, show (cpB most n f && decide ((3 : Int) = 0)) = false by simp]
    have HU : Hid (Un d c w (w.alloc (.cells #[.slice ada n ca] 22))) := Un.after hb0 (Un.same hc' hf')
    clear hA ha hc hf hc' hf' hE hb0
    go_enter Tryd.func42, Tryd.ntmps42
    go_wp2_with fail
    refine CK.out.mono ?_
    rintro e w1 ⟨rfl, hz⟩
    subst hz
    clear CK
    go_wp2
    go_ret3
    exact ⟨_, rfl, ⟨fun h => (by cases h), fun _ => ⟨none, 0, rfl⟩, fun a n' cap' e => (by cases e)⟩, (by unfold cE; rw [if_neg (by decide), Int.add_zero]; exact HU.out)⟩

set_option maxHeartbeats 4000000 in
theorem Clip_nil (most : Int) (va : Value) (n : Nat) (f : Nat → Int) (w : World) (m0 : -9223372036854775808 ≤ most) (m1 : most ≤ 9223372036854775807) (hn : n ≤ 70000) (hA : Ar w va n f) :
    Calls Tryd.prog 42 #[.pointer none, va, .int .i64 most] w fun e w' => ∃ v', e = .returned (.tuple #[v', .bool (cpB most n f && decide (sE n = 0)), .int .i64 (sE n)]) ∧ LL w w' v' n (cpF most n f) (sE n) ∧ Below w.heap.size w w' := by
  obtain ⟨ada, ca, ba, oa, rfl, x1, x2, -, -⟩ := id hA
  have hb0 := bel1 w (.cells #[.slice ada n ca] 22)
  unfold maxLen at *
  by_cases hl : n ≤ 65536
  · have hE : sE n = 0 := by unfold sE; rw [if_neg (by omega)]
    have CK : Hid (Calls Tryd.prog 46 #[.bool true, .slice (some ⟨w.heap.size, 0, none⟩) 1 1] (w.alloc (.cells #[.slice ada n ca] 22)) fun e w' => e = .returned (.int .i64 0) ∧ w' = (w.alloc (.cells #[.slice ada n ca] 22))) := by
      have h := check1_any true w ada n ca (by unfold maxLen; omega)
      rw [if_neg (by omega), if_pos rfl] at h
      exact h
    have HA1 : Hid (Ar (w.alloc (.cells #[.slice ada n ca] 22)) (.slice ada n ca) n f) := hA.later hb0
    have HU1 : Hid (Below w.heap.size w (w.alloc (.cells #[.slice ada n ca] 22))) := hb0
    skip
    rw [hE, show (cpB most n f && decide ((0 : Int) = 0)) = cpB most n f by simp]
    skip
    have hsT : (w.alloc (.cells #[.slice ada n ca] 22)).heap.size = w.heap.size + 1 := by simp
    clear hA hE hb0
    by_cases h0 : 0 < most
    · have h0' : ¬ most ≤ 0 := by omega
      have CN : Hid (∀ W : World, Ar W (.slice ada n ca) n f → Calls Tryd.prog 78 #[.pointer none, .slice ada n ca] W fun e w' => e = .returned (.int .i64 (rtX (dotV f f n))) ∧ Below W.heap.size W w') := fun W h => vnorm_nil _ n f hn W h
      obtain ⟨N0, N1⟩ := rtX_rng (dotV f f n)
      have rb := bi_rng (rtO (dotV f f n))
      have HB : Hid (cpB most n f = decide (most < rtX (dotV f f n))) := by show _ = _; unfold cpB; simp [h0]
      have HK : Hid (cpK most n f = qv (most * 4294967296) (rtX (dotV f f n)) ∧ cpO most n f = qo (most * 4294967296) (rtX (dotV f f n))) := ⟨rfl, rfl⟩
      have HM : Hid (cpN most n f = (if cpB most n f = true then bi (rtO (dotV f f n)) + bi (cpO most n f) + cntV (fun i => ovv (rnd (cpK most n f * f i) 32)) n else bi (rtO (dotV f f n)))) := by show _ = _; unfold cpN; rw [if_pos h0]
      generalize rtX (dotV f f n) = N at *
      generalize bi (rtO (dotV f f n)) = z at *
      by_cases h1 : most < N
      · have h1' : ¬ N ≤ most := by omega
        have HB2 : Hid (cpB most n f = true) := by show _ = _; rw [HB.out, decide_eq_true h1]
        have CD : Hid (∀ W : World, Calls Tryd.prog 81 #[.pointer none, .int .i64 most, .int .i64 N] W fun e w' => e = .returned (.int .i64 (cpK most n f)) ∧ Below W.heap.size W w') := by
          rw [HK.out.1]
          exact fun W => uDiv_nil most N m0 m1 (by omega) (by omega) W
        obtain ⟨K0, K1⟩ := qv_rng (most * 4294967296) N
        rw [← HK.out.1] at K0 K1
        have ro := bi_rng (cpO most n f)
        have CS : Hid (∀ W : World, Ar W (.slice ada n ca) n f → Calls Tryd.prog 56 #[.pointer none, .int .i64 (cpK most n f), .slice ada n ca] W fun e w' => e = .returned (.slice (some ⟨W.heap.size + 2, 0, none⟩) n n) ∧ Ar w' (.slice (some ⟨W.heap.size + 2, 0, none⟩) n n) n (fun i => clv (rnd (cpK most n f * f i) 32)) ∧ Below W.heap.size W w') := fun W h => scaled_nil (cpK most n f) K0 K1 _ n f hn W h
        have HF : Hid (cpF most n f = fun i => clv (rnd (cpK most n f * f i) 32)) := by show _ = _; funext i; unfold cpF; rw [if_pos HB2.out]
        have HM2 : Hid (cpN most n f = z + bi (cpO most n f) + cntV (fun i => ovv (rnd (cpK most n f * f i) 32)) n) := by show _ = _; rw [HM.out, if_pos HB2.out]
        clear HB HK HM
        rw [HB2.out, HF.out]
        skip
        clear HB2 HF HM2 ro
        generalize cntV (fun i => ovv (rnd (cpK most n f * f i) 32)) n = zz at *
        generalize bi (cpO most n f) = zy at *
        generalize cpK most n f = K at *
        go_enter Tryd.func42, Tryd.ntmps42
        go_wp2_with fail
        refine CK.out.mono ?_
        rintro e w1 ⟨rfl, hz⟩
        subst hz
        clear CK
        go_wp2_with fail
        refine (CN.out _ HA1.out).mono ?_
        rintro e w2 ⟨rfl, h2⟩
        have HA2 : Hid (Ar w2 (.slice ada n ca) n f) := HA1.out.later h2
        have HU2 : Hid (Below w.heap.size w w2) := bchain HU1.out h2
        clear h2 CN HA1 HU1
        go_wp2_with fail
        refine (CD.out _).mono ?_
        rintro e w3 ⟨rfl, h3⟩
        have HA3 : Hid (Ar w3 (.slice ada n ca) n f) := HA2.out.later h3
        have HU3 : Hid (Below w.heap.size w w3) := bchain HU2.out h3
        clear h3 CD HA2 HU2
        go_wp2_with fail
        refine (CS.out _ HA3.out).mono ?_
        rintro e w4 ⟨rfl, hX, h4⟩
        have HX : Hid (Ar w4 (.slice (some ⟨w3.heap.size + 2, 0, none⟩) n n) n (fun i => clv (rnd (K * f i) 32))) := hX
        have HU4 : Hid (Below w.heap.size w w4) := bchain HU3.out h4
        have hs3 : w.heap.size ≤ w3.heap.size := HU3.out.size
        clear h4 CS HA3 HU3 hX
        go_wp2
        go_ret3
        exact ⟨_, rfl, ⟨fun _ => HX.out, fun h => absurd rfl h, fun a n' cap' e _ => (by cases e; show w.heap.size ≤ w3.heap.size + 2; omega)⟩, HU4.out⟩
      · have h1' : N ≤ most := by omega
        have HB2 : Hid (cpB most n f = false) := by show _ = _; rw [HB.out, decide_eq_false h1]
        have CC : Hid (∀ W : World, Ar W (.slice ada n ca) n f → Calls Tryd.prog 80 #[.slice ada n ca] W fun e w' => ∃ (ad : Option Addr) (cap : Nat), e = .returned (.slice ad n cap) ∧ Ar w' (.slice ad n cap) n f ∧ Ow W.heap.size (.slice ad n cap) ∧ Below W.heap.size W w') := fun W h => clone_any _ n f hn W h
        have HF : Hid (cpF most n f = f) := by show _ = _; funext i; unfold cpF; rw [if_neg (by rw [HB2.out]; decide)]
        have HM2 : Hid (cpN most n f = z) := by show _ = _; rw [HM.out, if_neg (by rw [HB2.out]; decide)]
        clear HB HK HM
        rw [HB2.out, HF.out]
        clear HB2 HF HM2
        go_enter Tryd.func42, Tryd.ntmps42
        go_wp2_with fail
        refine CK.out.mono ?_
        rintro e w1 ⟨rfl, hz⟩
        subst hz
        clear CK
        go_wp2_with fail
        refine (CN.out _ HA1.out).mono ?_
        rintro e w2 ⟨rfl, h2⟩
        have HA2 : Hid (Ar w2 (.slice ada n ca) n f) := HA1.out.later h2
        have HU2 : Hid (Below w.heap.size w w2) := bchain HU1.out h2
        clear h2 CN HA1 HU1
        go_wp2_with fail
        refine (CC.out _ HA2.out).mono ?_
        rintro e w4 ⟨ad, cap, rfl, hX, hO, h4⟩
        have HX : Hid (Ar w4 (.slice ad n cap) n f ∧ Ow w.heap.size (.slice ad n cap)) := ⟨hX, hO.mono HU2.out.size⟩
        have HU4 : Hid (Below w.heap.size w w4) := bchain HU2.out h4
        clear h4 CC HA2 HU2 hX hO
        go_wp2
        go_ret3
        exact ⟨_, rfl, ⟨fun _ => HX.out.1, fun h => absurd rfl h, HX.out.2⟩, HU4.out⟩
    · have h0' : most ≤ 0 := by omega
      have HB2 : Hid (cpB most n f = false) := by show _ = _; unfold cpB; simp [h0]
      have CC : Hid (∀ W : World, Ar W (.slice ada n ca) n f → Calls Tryd.prog 80 #[.slice ada n ca] W fun e w' => ∃ (ad : Option Addr) (cap : Nat), e = .returned (.slice ad n cap) ∧ Ar w' (.slice ad n cap) n f ∧ Ow W.heap.size (.slice ad n cap) ∧ Below W.heap.size W w') := fun W h => clone_any _ n f hn W h
      have HF : Hid (cpF most n f = f) := by show _ = _; funext i; unfold cpF; rw [if_neg (by rw [HB2.out]; decide)]
      have HM2 : Hid (cpN most n f = 0) := by show _ = _; unfold cpN; rw [if_neg h0]
      rw [HB2.out, HF.out]
      clear HB2 HF HM2
      go_enter Tryd.func42, Tryd.ntmps42
      go_wp2_with fail
      refine CK.out.mono ?_
      rintro e w1 ⟨rfl, hz⟩
      subst hz
      clear CK
      go_wp2_with fail
      refine (CC.out _ HA1.out).mono ?_
      rintro e w4 ⟨ad, cap, rfl, hX, hO, h4⟩
      have HX : Hid (Ar w4 (.slice ad n cap) n f ∧ Ow w.heap.size (.slice ad n cap)) := ⟨hX, hO.mono (by simp)⟩
      have HU4 : Hid (Below w.heap.size w w4) := bchain HU1.out h4
      clear h4 CC HA1 HU1 hX hO
      go_wp2
      go_ret3
      exact ⟨_, rfl, ⟨fun _ => HX.out.1, fun h => absurd rfl h, HX.out.2⟩, HU4.out⟩
  · have hE : sE n = 3 := by unfold sE; rw [if_pos (by omega)]
    have CK : Hid (Calls Tryd.prog 46 #[.bool true, .slice (some ⟨w.heap.size, 0, none⟩) 1 1] (w.alloc (.cells #[.slice ada n ca] 22)) fun e w' => e = .returned (.int .i64 3) ∧ w' = (w.alloc (.cells #[.slice ada n ca] 22))) := by
      have h := check1_any true w ada n ca (by unfold maxLen; omega)
      rw [if_pos (by omega)] at h
      exact h
    rw [hE, show (cpB most n f && decide ((3 : Int) = 0)) = false by simp]
    have HU : Hid (Below w.heap.size w (w.alloc (.cells #[.slice ada n ca] 22))) := hb0
    clear hA hE hb0
    go_enter Tryd.func42, Tryd.ntmps42
    go_wp2_with fail
    refine CK.out.mono ?_
    rintro e w1 ⟨rfl, hz⟩
    subst hz
    clear CK
    go_wp2
    go_ret3
    exact ⟨_, rfl, ⟨fun h => (by cases h), fun _ => ⟨none, 0, rfl⟩, fun a n' cap' e => (by cases e)⟩, HU.out⟩

theorem vec3 : Vec3 where
  clipU := fun most va n f d c w m0 m1 hn c0 c1 _ hA ha hU => Clip_un most va n f d c w m0 m1 hn c0 c1 hA ha hU
end Go.Proofs.YtldnnjcfihjkdaaDoor
