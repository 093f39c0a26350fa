/-
  The contract of vec's Axpy.
-/
import Derived.Test.YtfcneciknldohaaPWalkF
set_option linter.unusedVariables false
set_option linter.unusedSimpArgs false
namespace Go.Proofs.Ytfcneciknldohaa
open Go.RowKit

set_option maxHeartbeats 2000000 in
theorem Axpy_un (k : Int) (va vb : Value) (n m : Nat) (f g : Nat → Int) (d : Nat) (c : Int) (w : World) (k0 : -9223372036854775808 ≤ k) (k1 : k ≤ 9223372036854775807) (hn : n ≤ 70000) (hm : m ≤ 70000) (c0 : 0 ≤ c) (c1 : c ≤ 800000000) (hA : Ar w va n f) (hB : Ar w vb m g) (ha : Nb va d) (hb : Nb vb d) (hU : Uc w d c) :
    Calls Try.prog 23 #[.pointer (some ⟨d, 0, none⟩), .int .i64 k, va, vb] w fun e w' => ∃ v', e = .returned (.tuple #[v', .int .i64 (dE n m)]) ∧ LL w w' v' n (fun i => clv (rr (k * f i + g i * 4294967296) 32)) (dE n m) ∧ Un d (c + cE (dE n m) (cntV (fun i => ovv (rr (k * f i + g i * 4294967296) 32)) n)) w w' := by
  obtain ⟨ada, ca, ba, oa, rfl, x1, x2, -, -⟩ := id hA
  obtain ⟨adb, cb, bb, ob, rfl, y1, y2, -, -⟩ := id hB
  have hb2 := bel2 w (.cells #[.pointer (some ⟨d, 0, none⟩)] 30) (.cells #[.int .i64 k] 22)
  have hb0 := bchain hb2 (bel1 _ (.cells #[.slice ada n ca, .slice adb m cb] 25))
  have cu : (((w.alloc (.cells #[.pointer (some ⟨d, 0, none⟩)] 30)).alloc (.cells #[.int .i64 k] 22)).alloc (.cells #[.slice ada n ca, .slice adb m cb] 25)).cell? ⟨w.heap.size, 0, none⟩ = some (.pointer (some ⟨d, 0, none⟩)) := cell_later (bel1 _ _) (cell_later (bel1 _ _) (cell_new1 w _ _))
  have ck : (((w.alloc (.cells #[.pointer (some ⟨d, 0, none⟩)] 30)).alloc (.cells #[.int .i64 k] 22)).alloc (.cells #[.slice ada n ca, .slice adb m cb] 25)).cell? ⟨w.heap.size + 1, 0, none⟩ = some (.int .i64 k) := by have h := cell_new1 (w.alloc (.cells #[.pointer (some ⟨d, 0, none⟩)] 30)) (.int .i64 k) 22; rw [World.size_alloc] at h; exact cell_later (bel1 _ _) h
  have hmf := hmf_any
  obtain ⟨hc, hf⟩ := hU
  have hd := World.block_lt_of_cell? _ _ hc
  dsimp only at hd
  have hc' := cell_later hb0 hc
  have hf' := frozen_later hb0 hc hf
  have CP : Hid (Calls Try.prog 31 #[.slice ada n ca, .slice adb m cb, .func (.func 32) #[] #[.pointer (some ⟨w.heap.size + 1, 0, none⟩), .pointer (some ⟨w.heap.size, 0, none⟩)]] ((w.alloc (.cells #[.pointer (some ⟨d, 0, none⟩)] 30)).alloc (.cells #[.int .i64 k] 22)) fun e w' => ∃ (ad : Option Addr) (l cp : Nat), e = .returned (.tuple #[.slice ad l cp, .int .i64 (dE n m)]) ∧ (dE n m = 0 → (fun v' w' => LL w w' v' n (fun i => clv (rr (k * f i + g i * 4294967296) 32)) 0 ∧ Un d (c + (cntV (fun i => ovv (rr (k * f i + g i * 4294967296) 32)) n)) w w') (.slice ad l cp) w') ∧ (dE n m ≠ 0 → ad = none ∧ l = 0 ∧ cp = 0 ∧ w' = (((w.alloc (.cells #[.pointer (some ⟨d, 0, none⟩)] 30)).alloc (.cells #[.int .i64 k] 22)).alloc (.cells #[.slice ada n ca, .slice adb m cb] 25)))) := by
    refine paired_of _ ada adb n m ca cb hn hm ((w.alloc (.cells #[.pointer (some ⟨d, 0, none⟩)] 30)).alloc (.cells #[.int .i64 k] 22)) (fun v' w' => LL w w' v' n (fun i => clv (rr (k * f i + g i * 4294967296) 32)) 0 ∧ Un d (c + (cntV (fun i => ovv (rr (k * f i + g i * 4294967296) 32)) n)) w w') ?_
    intro hnm hl
    subst hnm
    have hsz : (((w.alloc (.cells #[.pointer (some ⟨d, 0, none⟩)] 30)).alloc (.cells #[.int .i64 k] 22)).alloc (.cells #[.slice ada n ca, .slice adb n cb] 25)).heap.size = w.heap.size + 3 := by simp
    have h := pairs_Axpy (.pointer (some ⟨w.heap.size + 1, 0, none⟩)) (.pointer (some ⟨w.heap.size, 0, none⟩)) (fun j W => Un d (c + cntV (fun i => ovv (rr (k * f i + g i * 4294967296) 32)) j) (((w.alloc (.cells #[.pointer (some ⟨d, 0, none⟩)] 30)).alloc (.cells #[.int .i64 k] 22)).alloc (.cells #[.slice ada n ca, .slice adb n cb] 25)) W) _ _ n f g (fun i => clv (rr (k * f i + g i * 4294967296) 32)) (((w.alloc (.cells #[.pointer (some ⟨d, 0, none⟩)] 30)).alloc (.cells #[.int .i64 k] 22)).alloc (.cells #[.slice ada n ca, .slice adb n cb] 25)) hn (hA.later hb0) (hB.later hb0) (by simpa [cntV] using Un.same hc' hf') (fun j W W' h hb => h.ahead hb) (fun j W a x hx h => h.setnew a x (by rw [hsz]; omega) hx) (fun j W h => ⟨(hA.later hb0).un ha h, (hB.later hb0).un hb h⟩) (fun j _ => clv_fit _) (fun j W hj hW h => by
      have r := cnt_rng (fun i => ovv (rr (k * f i + g i * 4294967296) 32)) j
      obtain ⟨_, _, _, _, _, _, _, _, hx⟩ := hA
      obtain ⟨_, _, _, _, _, _, _, _, hy⟩ := hB
      have hx := (hx j hj).2
      have hy := (hy j hj).2
      refine (ax1_un k (f j) (g j) k0 k1 hx.1 hx.2 hy.1 hy.2 (w.heap.size + 1) w.heap.size d _ (by omega) (by omega) W h.c h.f (h.o _ _ (by dsimp only; omega) ck) (h.o _ _ (by dsimp only; omega) cu)).mono ?_
      rintro e w' ⟨rfl, hU⟩
      refine ⟨rfl, ?_, hU.k _ (by omega) (by rw [hsz]; omega), hU.s⟩
      have e1 : c + cntV (fun i => ovv (rr (k * f i + g i * 4294967296) 32)) (j + 1) = c + cntV (fun i => ovv (rr (k * f i + g i * 4294967296) 32)) j + bi (ovv (rr (k * f j + g j * 4294967296) 32)) := by rw [Int.add_assoc]; rfl
      show Un d (c + cntV (fun i => ovv (rr (k * f i + g i * 4294967296) 32)) (j + 1)) _ w'
      rw [e1]
      exact h.chain hU)
    refine h.mono ?_
    rintro e w' ⟨rfl, hS, hX⟩
    exact ⟨_, rfl, ⟨fun _ => hX, fun h => absurd rfl h, fun a n' cap' e _ => (by cases e; simp; omega)⟩, Un.after hb0 hS⟩
  have HU : Hid (Un d c w (((w.alloc (.cells #[.pointer (some ⟨d, 0, none⟩)] 30)).alloc (.cells #[.int .i64 k] 22)).alloc (.cells #[.slice ada n ca, .slice adb m cb] 25))) := Un.after hb0 (Un.same hc' hf')
  clear hA hB ha hb hc hf hc' hf' hb0 hb2 cu ck
  go_enter Try.func23, Try.ntmps23
  go_wp2_with fail
  refine CP.out.mono ?_
  rintro e w1 ⟨ad, l, cp, rfl, hQ, hN⟩
  have HQN : Hid ((dE n m = 0 → (fun v' w' => LL w w' v' n (fun i => clv (rr (k * f i + g i * 4294967296) 32)) 0 ∧ Un d (c + (cntV (fun i => ovv (rr (k * f i + g i * 4294967296) 32)) n)) w w') (.slice ad l cp) w1) ∧ (dE n m ≠ 0 → ad = none ∧ l = 0 ∧ cp = 0 ∧ w1 = (((w.alloc (.cells #[.pointer (some ⟨d, 0, none⟩)] 30)).alloc (.cells #[.int .i64 k] 22)).alloc (.cells #[.slice ada n ca, .slice adb m cb] 25)))) := ⟨hQ, hN⟩
  clear CP hQ hN
  go_wp2
  go_ret2
  by_cases hE : dE n m = 0
  · obtain ⟨h1, h2⟩ := HQN.out.1 hE
    rw [hE]
    exact ⟨_, rfl, h1, (by unfold cE; rw [if_pos rfl]; exact h2)⟩
  · obtain ⟨rfl, rfl, rfl, rfl⟩ := HQN.out.2 hE
    exact ⟨_, rfl, ⟨fun h => absurd h hE, fun _ => ⟨none, 0, rfl⟩, fun a n' cap' e => (by cases e)⟩, (by unfold cE; rw [if_neg hE, Int.add_zero]; exact HU.out)⟩

set_option maxHeartbeats 2000000 in
theorem Axpy_nil (k : Int) (va vb : Value) (n m : Nat) (f g : Nat → Int) (w : World) (k0 : -9223372036854775808 ≤ k) (k1 : k ≤ 9223372036854775807) (hn : n ≤ 70000) (hm : m ≤ 70000) (hA : Ar w va n f) (hB : Ar w vb m g) :
    Calls Try.prog 23 #[.pointer none, .int .i64 k, va, vb] w fun e w' => ∃ v', e = .returned (.tuple #[v', .int .i64 (dE n m)]) ∧ LL w w' v' n (fun i => clv (rr (k * f i + g i * 4294967296) 32)) (dE n m) ∧ Below w.heap.size w w' := by
  obtain ⟨ada, ca, ba, oa, rfl, x1, x2, -, -⟩ := id hA
  obtain ⟨adb, cb, bb, ob, rfl, y1, y2, -, -⟩ := id hB
  have hb2 := bel2 w (.cells #[.pointer none] 30) (.cells #[.int .i64 k] 22)
  have hb0 := bchain hb2 (bel1 _ (.cells #[.slice ada n ca, .slice adb m cb] 25))
  have cu : (((w.alloc (.cells #[.pointer none] 30)).alloc (.cells #[.int .i64 k] 22)).alloc (.cells #[.slice ada n ca, .slice adb m cb] 25)).cell? ⟨w.heap.size, 0, none⟩ = some (.pointer none) := cell_later (bel1 _ _) (cell_later (bel1 _ _) (cell_new1 w _ _))
  have ck : (((w.alloc (.cells #[.pointer none] 30)).alloc (.cells #[.int .i64 k] 22)).alloc (.cells #[.slice ada n ca, .slice adb m cb] 25)).cell? ⟨w.heap.size + 1, 0, none⟩ = some (.int .i64 k) := by have h := cell_new1 (w.alloc (.cells #[.pointer none] 30)) (.int .i64 k) 22; rw [World.size_alloc] at h; exact cell_later (bel1 _ _) h
  have hmf := hmf_any
  have CP : Hid (Calls Try.prog 31 #[.slice ada n ca, .slice adb m cb, .func (.func 32) #[] #[.pointer (some ⟨w.heap.size + 1, 0, none⟩), .pointer (some ⟨w.heap.size, 0, none⟩)]] ((w.alloc (.cells #[.pointer none] 30)).alloc (.cells #[.int .i64 k] 22)) fun e w' => ∃ (ad : Option Addr) (l cp : Nat), e = .returned (.tuple #[.slice ad l cp, .int .i64 (dE n m)]) ∧ (dE n m = 0 → (fun v' w' => LL w w' v' n (fun i => clv (rr (k * f i + g i * 4294967296) 32)) 0 ∧ Below w.heap.size w w') (.slice ad l cp) w') ∧ (dE n m ≠ 0 → ad = none ∧ l = 0 ∧ cp = 0 ∧ w' = (((w.alloc (.cells #[.pointer none] 30)).alloc (.cells #[.int .i64 k] 22)).alloc (.cells #[.slice ada n ca, .slice adb m cb] 25)))) := by
    refine paired_of _ ada adb n m ca cb hn hm ((w.alloc (.cells #[.pointer none] 30)).alloc (.cells #[.int .i64 k] 22)) (fun v' w' => LL w w' v' n (fun i => clv (rr (k * f i + g i * 4294967296) 32)) 0 ∧ Below w.heap.size w w') ?_
    intro hnm hl
    subst hnm
    have hsz : (((w.alloc (.cells #[.pointer none] 30)).alloc (.cells #[.int .i64 k] 22)).alloc (.cells #[.slice ada n ca, .slice adb n cb] 25)).heap.size = w.heap.size + 3 := by simp
    have h := pairs_Axpy (.pointer (some ⟨w.heap.size + 1, 0, none⟩)) (.pointer (some ⟨w.heap.size, 0, none⟩)) (fun j W => Below (((w.alloc (.cells #[.pointer none] 30)).alloc (.cells #[.int .i64 k] 22)).alloc (.cells #[.slice ada n ca, .slice adb n cb] 25)).heap.size (((w.alloc (.cells #[.pointer none] 30)).alloc (.cells #[.int .i64 k] 22)).alloc (.cells #[.slice ada n ca, .slice adb n cb] 25)) W) _ _ n f g (fun i => clv (rr (k * f i + g i * 4294967296) 32)) (((w.alloc (.cells #[.pointer none] 30)).alloc (.cells #[.int .i64 k] 22)).alloc (.cells #[.slice ada n ca, .slice adb n cb] 25)) hn (hA.later hb0) (hB.later hb0) (Below.refl _ _) (fun j W W' h hb => bchain h hb) (fun j W a x hx h => h.setCell hx _) (fun j W h => ⟨(hA.later hb0).later h, (hB.later hb0).later h⟩) (fun j _ => clv_fit _) (fun j W hj hW h => by
      obtain ⟨_, _, _, _, _, _, _, _, hx⟩ := hA
      obtain ⟨_, _, _, _, _, _, _, _, hy⟩ := hB
      have hx := (hx j hj).2
      have hy := (hy j hj).2
      refine (ax1_nil k (f j) (g j) k0 k1 hx.1 hx.2 hy.1 hy.2 (w.heap.size + 1) w.heap.size W (cell_later h ck) (cell_later h cu)).mono ?_
      rintro e w' ⟨rfl, hb⟩
      exact ⟨rfl, bchain h hb, hb.block _ hW, hb.size⟩)
    refine h.mono ?_
    rintro e w' ⟨rfl, hS, hX⟩
    exact ⟨_, rfl, ⟨fun _ => hX, fun h => absurd rfl h, fun a n' cap' e _ => (by cases e; simp; omega)⟩, bchain hb0 hS⟩
  have HU : Hid (Below w.heap.size w (((w.alloc (.cells #[.pointer none] 30)).alloc (.cells #[.int .i64 k] 22)).alloc (.cells #[.slice ada n ca, .slice adb m cb] 25))) := hb0
  clear hA hB hb0 hb2 cu ck
  go_enter Try.func23, Try.ntmps23
  go_wp2_with fail
  refine CP.out.mono ?_
  rintro e w1 ⟨ad, l, cp, rfl, hQ, hN⟩
  have HQN : Hid ((dE n m = 0 → (fun v' w' => LL w w' v' n (fun i => clv (rr (k * f i + g i * 4294967296) 32)) 0 ∧ Below w.heap.size w w') (.slice ad l cp) w1) ∧ (dE n m ≠ 0 → ad = none ∧ l = 0 ∧ cp = 0 ∧ w1 = (((w.alloc (.cells #[.pointer none] 30)).alloc (.cells #[.int .i64 k] 22)).alloc (.cells #[.slice ada n ca, .slice adb m cb] 25)))) := ⟨hQ, hN⟩
  clear CP hQ hN
  go_wp2
  go_ret2
  by_cases hE : dE n m = 0
  · obtain ⟨h1, h2⟩ := HQN.out.1 hE
    rw [hE]
    exact ⟨_, rfl, h1, h2⟩
  · obtain ⟨rfl, rfl, rfl, rfl⟩ := HQN.out.2 hE
    exact ⟨_, rfl, ⟨fun h => absurd h hE, fun _ => ⟨none, 0, rfl⟩, fun a n' cap' e => (by cases e)⟩, HU.out⟩

end Go.Proofs.Ytfcneciknldohaa
