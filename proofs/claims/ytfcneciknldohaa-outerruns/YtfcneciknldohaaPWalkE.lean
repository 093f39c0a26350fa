/-
  The contracts of vec's Scale, Add, Sub and Axpy, with a unit and with none.
-/
import Derived.Test.YtfcneciknldohaaBK
import Derived.Test.YtfcneciknldohaaPWalkA
import Derived.Test.YtfcneciknldohaaPWalkB
import Derived.Test.YtfcneciknldohaaPWalkD
import Derived.Deep.QuietTactic
import Derived.BigQuiet
set_option linter.unusedVariables false
set_option linter.unusedSimpArgs false
namespace Go.Proofs.Ytfcneciknldohaa
open Go.RowKit

theorem Un.setnew {d : Nat} {c : Int} {w w1 : World} (h : Un d c w w1) (a : Addr) (u : Value) (hd : d < w.heap.size) (ha : w.heap.size ≤ a.block) : Un d c w (w1.setCell a u) where
  c := cell_set (by dsimp only; omega) h.c
  f := by rw [World.frozen?_setCell]; exact h.f
  b := fun base w0 h1 h2 h3 => (h.b base w0 h1 h2 h3).setCell (by omega) _
  o := fun b v hb hc => cell_set (by have := World.block_lt_of_cell? _ _ hc; omega) (h.o b v hb hc)
  s := by rw [World.size_setCell]; exact h.s
  k := fun i hi hn => (Below.heap_setCell _ _ _ _ (by omega)).trans (h.k i hi hn)
theorem hmf_any : ∀ (fn : Fn) (first cap : Array Value) (w : World), (Instr.makeFunc fn first cap).run Try.prog w = .ok (.func fn first cap) w := fun _ _ _ _ => rfl
theorem cell_new1 (w : World) (x : Value) (t : TypeId) (h : x.oneCell' = true := by rfl) : (w.alloc (.cells #[x] t)).cell? ⟨w.heap.size, 0, none⟩ = some x := by simp [go_sem]

set_option maxHeartbeats 2000000 in
theorem paired_of (fv : Value) (ada adb : Option Addr) (n m ca cb : Nat) (hn : n ≤ 70000) (hm : m ≤ 70000) (w : World) (Q : Value → World → Prop)
    (CP : n = m → n ≤ 65536 → Calls Try.prog 48 #[.slice ada n ca, .slice adb m cb, fv] (w.alloc (.cells #[.slice ada n ca, .slice adb m cb] 25)) fun e w' => ∃ b, e = .returned (.slice (some ⟨b, 0, none⟩) n n) ∧ Q (.slice (some ⟨b, 0, none⟩) n n) w') :
    Calls Try.prog 31 #[.slice ada n ca, .slice adb m cb, fv] w fun e w' => ∃ (ad : Option Addr) (l cp : Nat), e = .returned (.tuple #[.slice ad l cp, .int .i64 (dE n m)]) ∧ (dE n m = 0 → Q (.slice ad l cp) w') ∧ (dE n m ≠ 0 → ad = none ∧ l = 0 ∧ cp = 0 ∧ w' = (w.alloc (.cells #[.slice ada n ca, .slice adb m cb] 25))) := by
  rcases (show (n = m ∧ n ≤ 65536) ∨ (n = m ∧ 65536 < n) ∨ n ≠ m by omega) with ⟨hnm, hl⟩ | ⟨hnm, hl⟩ | hnm
  · subst hnm
    have hE : dE n n = 0 := by unfold dE; rw [if_neg (by omega), if_pos rfl]
    have CK : Hid (Calls Try.prog 47 #[.bool true, .slice (some ⟨w.heap.size, 0, none⟩) 2 2] (w.alloc (.cells #[.slice ada n ca, .slice adb n cb] 25)) fun e w' => e = .returned (.int .i64 0) ∧ w' = (w.alloc (.cells #[.slice ada n ca, .slice adb n cb] 25))) := by
      have h := check2_any true w ada adb n ca n cb (by unfold maxLen; omega) (by unfold maxLen; omega)
      rw [if_neg (by omega), if_pos rfl] at h
      exact h
    have HP : Hid (Calls Try.prog 48 #[.slice ada n ca, .slice adb n cb, fv] (w.alloc (.cells #[.slice ada n ca, .slice adb n cb] 25)) fun e w' => ∃ b, e = .returned (.slice (some ⟨b, 0, none⟩) n n) ∧ Q (.slice (some ⟨b, 0, none⟩) n n) w') := CP rfl hl
    rw [hE]
    clear CP hE
    go_enter Try.func31, Try.ntmps31
    go_wp2_with fail
    refine CK.out.mono ?_
    rintro e w1 ⟨rfl, hz⟩
    subst hz
    clear CK
    go_wp2_with fail
    refine HP.out.mono ?_
    rintro e w3 ⟨b, rfl, hQ⟩
    have HQ : Hid (Q (.slice (some ⟨b, 0, none⟩) n n) w3) := hQ
    clear HP hQ
    go_wp2
    go_ret2
    exact ⟨_, _, _, rfl, fun _ => HQ.out, fun h => absurd rfl h⟩
  · subst hnm
    have hE : dE n n = 3 := by unfold dE; rw [if_pos (by omega)]
    have CK : Hid (Calls Try.prog 47 #[.bool true, .slice (some ⟨w.heap.size, 0, none⟩) 2 2] (w.alloc (.cells #[.slice ada n ca, .slice adb n cb] 25)) fun e w' => e = .returned (.int .i64 3) ∧ w' = (w.alloc (.cells #[.slice ada n ca, .slice adb n cb] 25))) := by
      have h := check2_any true w ada adb n ca n cb (by unfold maxLen; omega) (by unfold maxLen; omega)
      rw [if_pos (by omega)] at h
      exact h
    rw [hE]
    clear CP hE
    go_enter Try.func31, Try.ntmps31
    go_wp2_with fail
    refine CK.out.mono ?_
    rintro e w1 ⟨rfl, hz⟩
    subst hz
    clear CK
    go_wp2
    go_ret2
    exact ⟨_, _, _, rfl, fun h => (by cases h), fun _ => ⟨rfl, rfl, rfl, rfl⟩⟩
  · have hnI : ((n : Int) == (m : Int)) = false := beq_eq_false_iff_ne.2 (by omega)
    obtain ⟨E, hE⟩ : ∃ E, dE n m = E := ⟨_, rfl⟩
    have hne : ¬ E = 0 := by rw [← hE]; unfold dE; split <;> simp [hnm]
    have CK : Hid (Calls Try.prog 47 #[.bool false, .slice (some ⟨w.heap.size, 0, none⟩) 2 2] (w.alloc (.cells #[.slice ada n ca, .slice adb m cb] 25)) fun e w' => e = .returned (.int .i64 E) ∧ w' = (w.alloc (.cells #[.slice ada n ca, .slice adb m cb] 25))) := by
      have h := check2_any false w ada adb n ca m cb (by unfold maxLen; omega) (by unfold maxLen; omega)
      rw [show (if 65536 < n ∨ 65536 < m then (3 : Int) else if false = true then 0 else 40) = E by rw [← hE]; unfold dE; rw [if_neg (show ¬ false = true by decide), if_neg hnm]] at h
      exact h
    rw [hE]
    clear CP hE
    go_enter Try.func31, Try.ntmps31
    go_wp2_with fail
    refine CK.out.mono ?_
    rintro e w1 ⟨rfl, hz⟩
    subst hz
    clear CK
    go_wp2
    go_ret2
    exact ⟨_, _, _, rfl, fun h => absurd h hne, fun _ => ⟨rfl, rfl, rfl, rfl⟩⟩

set_option maxHeartbeats 2000000 in
theorem Sub_un (va vb : Value) (n m : Nat) (f g : Nat → Int) (d : Nat) (c : Int) (w : World) (hn : n ≤ 70000) (hm : m ≤ 70000) (c0 : 0 ≤ c) (c1 : c ≤ 800000000) (hA : Ar w va n f) (hB : Ar w vb m g) (ha : Nb va d) (hb : Nb vb d) (hU : Uc w d c) :
    Calls Try.prog 29 #[.pointer (some ⟨d, 0, none⟩), va, vb] w fun e w' => ∃ v', e = .returned (.tuple #[v', .int .i64 (dE n m)]) ∧ LL w w' v' n (fun i => clv (f i - g i)) (dE n m) ∧ Un d (c + cE (dE n m) (cntV (fun i => ovv (f i - g i)) n)) w w' := by
  obtain ⟨ada, ca, ba, oa, rfl, x1, x2, -, -⟩ := id hA
  obtain ⟨adb, cb, bb, ob, rfl, y1, y2, -, -⟩ := id hB
  have hb0 := bel1 w (.cells #[.slice ada n ca, .slice adb m cb] 25)
  have hmf := hmf_any
  obtain ⟨hc, hf⟩ := hU
  have hd := World.block_lt_of_cell? _ _ hc
  dsimp only at hd
  have hc' := cell_later hb0 hc
  have hf' := frozen_later hb0 hc hf
  have CP : Hid (Calls Try.prog 31 #[.slice ada n ca, .slice adb m cb, .func (.func 46) #[.pointer (some ⟨d, 0, none⟩)] #[]] w fun e w' => ∃ (ad : Option Addr) (l cp : Nat), e = .returned (.tuple #[.slice ad l cp, .int .i64 (dE n m)]) ∧ (dE n m = 0 → (fun v' w' => LL w w' v' n (fun i => clv (f i - g i)) 0 ∧ Un d (c + (cntV (fun i => ovv (f i - g i)) n)) w w') (.slice ad l cp) w') ∧ (dE n m ≠ 0 → ad = none ∧ l = 0 ∧ cp = 0 ∧ w' = (w.alloc (.cells #[.slice ada n ca, .slice adb m cb] 25)))) := by
    refine paired_of _ ada adb n m ca cb hn hm w (fun v' w' => LL w w' v' n (fun i => clv (f i - g i)) 0 ∧ Un d (c + (cntV (fun i => ovv (f i - g i)) n)) w w') ?_
    intro hnm hl
    subst hnm
    have hsz : (w.alloc (.cells #[.slice ada n ca, .slice adb n cb] 25)).heap.size = w.heap.size + 1 := by simp
    have h := pairs_Sub (.pointer (some ⟨d, 0, none⟩)) (fun j W => Un d (c + cntV (fun i => ovv (f i - g i)) j) (w.alloc (.cells #[.slice ada n ca, .slice adb n cb] 25)) W) _ _ n f g (fun i => clv (f i - g i)) (w.alloc (.cells #[.slice ada n ca, .slice adb n cb] 25)) hn (hA.later hb0) (hB.later hb0) (by simpa [cntV] using Un.same hc' hf') (fun j W W' h hb => h.ahead hb) (fun j W a x hx h => h.setnew a x (by rw [hsz]; omega) hx) (fun j W h => ⟨(hA.later hb0).un ha h, (hB.later hb0).un hb h⟩) (fun j _ => clv_fit _) (fun j W hj hW h => by
      have r := cnt_rng (fun i => ovv (f i - g i)) j
      obtain ⟨_, _, _, _, _, _, _, _, hx⟩ := hA
      obtain ⟨_, _, _, _, _, _, _, _, hy⟩ := hB
      have hx := (hx j hj).2
      have hy := (hy j hj).2
      refine (uSub_un (f j) (g j) hx.1 hx.2 hy.1 hy.2 d _ (by omega) (by omega) W h.c h.f).mono ?_
      rintro e w' ⟨rfl, hU⟩
      refine ⟨rfl, ?_, hU.k _ (by omega) (by rw [hsz]; omega), hU.s⟩
      have e1 : c + cntV (fun i => ovv (f i - g i)) (j + 1) = c + cntV (fun i => ovv (f i - g i)) j + bi (ovv (f j - g j)) := by rw [Int.add_assoc]; rfl
      show Un d (c + cntV (fun i => ovv (f i - g i)) (j + 1)) _ w'
      rw [e1]
      exact h.chain hU)
    refine h.mono ?_
    rintro e w' ⟨rfl, hS, hX⟩
    exact ⟨_, rfl, ⟨fun _ => hX, fun h => absurd rfl h, fun a n' cap' e _ => (by cases e; simp)⟩, Un.after hb0 hS⟩
  have HU : Hid (Un d c w (w.alloc (.cells #[.slice ada n ca, .slice adb m cb] 25))) := Un.after hb0 (Un.same hc' hf')
  clear hA hB ha hb hc hf hc' hf' hb0
  go_enter Try.func29, Try.ntmps29
  go_wp2_with fail
  refine CP.out.mono ?_
  rintro e w1 ⟨ad, l, cp, rfl, hQ, hN⟩
  have HQN : Hid ((dE n m = 0 → (fun v' w' => LL w w' v' n (fun i => clv (f i - g i)) 0 ∧ Un d (c + (cntV (fun i => ovv (f i - g i)) n)) w w') (.slice ad l cp) w1) ∧ (dE n m ≠ 0 → ad = none ∧ l = 0 ∧ cp = 0 ∧ w1 = (w.alloc (.cells #[.slice ada n ca, .slice adb m cb] 25)))) := ⟨hQ, hN⟩
  clear CP hQ hN
  go_wp2
  go_ret2
  by_cases hE : dE n m = 0
  · obtain ⟨h1, h2⟩ := HQN.out.1 hE
    rw [hE]
    exact ⟨_, rfl, h1, (by unfold cE; rw [if_pos rfl]; exact h2)⟩
  · obtain ⟨rfl, rfl, rfl, rfl⟩ := HQN.out.2 hE
    exact ⟨_, rfl, ⟨fun h => absurd h hE, fun _ => ⟨none, 0, rfl⟩, fun a n' cap' e => (by cases e)⟩, (by unfold cE; rw [if_neg hE, Int.add_zero]; exact HU.out)⟩

set_option maxHeartbeats 2000000 in
theorem Sub_nil (va vb : Value) (n m : Nat) (f g : Nat → Int) (w : World) (hn : n ≤ 70000) (hm : m ≤ 70000) (hA : Ar w va n f) (hB : Ar w vb m g) :
    Calls Try.prog 29 #[.pointer none, va, vb] w fun e w' => ∃ v', e = .returned (.tuple #[v', .int .i64 (dE n m)]) ∧ LL w w' v' n (fun i => clv (f i - g i)) (dE n m) ∧ Below w.heap.size w w' := by
  obtain ⟨ada, ca, ba, oa, rfl, x1, x2, -, -⟩ := id hA
  obtain ⟨adb, cb, bb, ob, rfl, y1, y2, -, -⟩ := id hB
  have hb0 := bel1 w (.cells #[.slice ada n ca, .slice adb m cb] 25)
  have hmf := hmf_any
  have CP : Hid (Calls Try.prog 31 #[.slice ada n ca, .slice adb m cb, .func (.func 46) #[.pointer none] #[]] w fun e w' => ∃ (ad : Option Addr) (l cp : Nat), e = .returned (.tuple #[.slice ad l cp, .int .i64 (dE n m)]) ∧ (dE n m = 0 → (fun v' w' => LL w w' v' n (fun i => clv (f i - g i)) 0 ∧ Below w.heap.size w w') (.slice ad l cp) w') ∧ (dE n m ≠ 0 → ad = none ∧ l = 0 ∧ cp = 0 ∧ w' = (w.alloc (.cells #[.slice ada n ca, .slice adb m cb] 25)))) := by
    refine paired_of _ ada adb n m ca cb hn hm w (fun v' w' => LL w w' v' n (fun i => clv (f i - g i)) 0 ∧ Below w.heap.size w w') ?_
    intro hnm hl
    subst hnm
    have hsz : (w.alloc (.cells #[.slice ada n ca, .slice adb n cb] 25)).heap.size = w.heap.size + 1 := by simp
    have h := pairs_Sub (.pointer none) (fun j W => Below (w.alloc (.cells #[.slice ada n ca, .slice adb n cb] 25)).heap.size (w.alloc (.cells #[.slice ada n ca, .slice adb n cb] 25)) W) _ _ n f g (fun i => clv (f i - g i)) (w.alloc (.cells #[.slice ada n ca, .slice adb n cb] 25)) hn (hA.later hb0) (hB.later hb0) (Below.refl _ _) (fun j W W' h hb => bchain h hb) (fun j W a x hx h => h.setCell hx _) (fun j W h => ⟨(hA.later hb0).later h, (hB.later hb0).later h⟩) (fun j _ => clv_fit _) (fun j W hj hW h => by
      obtain ⟨_, _, _, _, _, _, _, _, hx⟩ := hA
      obtain ⟨_, _, _, _, _, _, _, _, hy⟩ := hB
      have hx := (hx j hj).2
      have hy := (hy j hj).2
      refine (uSub_nil (f j) (g j) hx.1 hx.2 hy.1 hy.2 W).mono ?_
      rintro e w' ⟨rfl, hb⟩
      exact ⟨rfl, bchain h hb, hb.block _ hW, hb.size⟩)
    refine h.mono ?_
    rintro e w' ⟨rfl, hS, hX⟩
    exact ⟨_, rfl, ⟨fun _ => hX, fun h => absurd rfl h, fun a n' cap' e _ => (by cases e; simp)⟩, bchain hb0 hS⟩
  have HU : Hid (Below w.heap.size w (w.alloc (.cells #[.slice ada n ca, .slice adb m cb] 25))) := hb0
  clear hA hB hb0
  go_enter Try.func29, Try.ntmps29
  go_wp2_with fail
  refine CP.out.mono ?_
  rintro e w1 ⟨ad, l, cp, rfl, hQ, hN⟩
  have HQN : Hid ((dE n m = 0 → (fun v' w' => LL w w' v' n (fun i => clv (f i - g i)) 0 ∧ Below w.heap.size w w') (.slice ad l cp) w1) ∧ (dE n m ≠ 0 → ad = none ∧ l = 0 ∧ cp = 0 ∧ w1 = (w.alloc (.cells #[.slice ada n ca, .slice adb m cb] 25)))) := ⟨hQ, hN⟩
  clear CP hQ hN
  go_wp2
  go_ret2
  by_cases hE : dE n m = 0
  · obtain ⟨h1, h2⟩ := HQN.out.1 hE
    rw [hE]
    exact ⟨_, rfl, h1, h2⟩
  · obtain ⟨rfl, rfl, rfl, rfl⟩ := HQN.out.2 hE
    exact ⟨_, rfl, ⟨fun h => absurd h hE, fun _ => ⟨none, 0, rfl⟩, fun a n' cap' e => (by cases e)⟩, HU.out⟩

end Go.Proofs.Ytfcneciknldohaa
