/-
  VecSums: vectors are added, subtracted and scaled part by part.
-/
import Derived.Test.YtldnnjcfihjkdaaDoorLawVD
import Derived.Test.YtldnnjcfihjkdaaDoorBK
import Derived.Deep.DrawnRows
import Derived.Deep.QuietTactic
import Derived.BigQuiet
set_option linter.unusedVariables false
set_option linter.unusedSimpArgs false
namespace Go.Proofs.YtldnnjcfihjkdaaDoor
open Go.RowKit
attribute [local go_sem ↓] Go.wp_at_zero Go.wp_at_succ

theorem few2_any (w1 : World) (ada adb : Option Addr) (n m ca cb : Nat) (k : n ≤ maxLen) (q : m ≤ maxLen) :
    Calls Tryd.prog 10 #[.slice (some ⟨w1.heap.size, 0, none⟩) 2 2] (w1.alloc (.cells #[.slice ada n ca, .slice adb m cb] 22)) fun e w' => e = .returned (.bool (decide (n ≤ 200) && decide (m ≤ 200))) ∧ w' = (w1.alloc (.cells #[.slice ada n ca, .slice adb m cb] 22)) := by
  rw [← few_tn]
  refine few_any w1.heap.size 2 2 (tn n m) (by omega) (by omega) _ (fun k hk => ?_)
  have : k = 0 ∨ k = 1 := by omega
  rcases this with rfl | rfl
  · exact ⟨by simp [tn]; omega, ada, ca, by simp [go_sem, tn]⟩
  · exact ⟨by simp [tn]; omega, adb, cb, by simp [go_sem, tn]⟩
/-- A law's state: two units, two plain lists. -/
structure St (w : World) (du : Nat) (cu cv : Int) (vx : Value) (n : Nat) (f : Nat → Int) (vy : Value) (m : Nat) (g : Nat → Int) (wz : World) : Prop where
  l : L2 w du (du + 1) cu cv wz
  x : An du (du + 1) vx n f wz
  y : An du (du + 1) vy m g wz
  h : w.heap.size ≤ du
theorem St.later {w : World} {du : Nat} {cu cv : Int} {vx : Value} {n : Nat} {f : Nat → Int} {vy : Value} {m : Nat} {g : Nat → Int} {wz wy : World} (h : St w du cu cv vx n f vy m g wz) (hb : Below wz.heap.size wz wy) : St w du cu cv vx n f vy m g wy := ⟨h.l.later hb, h.x.later hb, h.y.later hb, h.h⟩
theorem St.unu {w : World} {du : Nat} {cu cv c : Int} {vx : Value} {n : Nat} {f : Nat → Int} {vy : Value} {m : Nat} {g : Nat → Int} {wz wy : World} (h : St w du cu cv vx n f vy m g wz) (hU : Un du c wz wy) : St w du c cv vx n f vy m g wy := ⟨h.l.unu hU h.h (by omega), h.x.unu hU, h.y.unu hU, h.h⟩
theorem St.unv {w : World} {du : Nat} {cu cv c : Int} {vx : Value} {n : Nat} {f : Nat → Int} {vy : Value} {m : Nat} {g : Nat → Int} {wz wy : World} (h : St w du cu cv vx n f vy m g wz) (hU : Un (du + 1) c wz wy) : St w du cu c vx n f vy m g wy := ⟨h.l.unv hU (by have := h.h; omega) (by omega), h.x.unv hU, h.y.unv hU, h.h⟩
set_option maxRecDepth 100000 in
set_option maxHeartbeats 8000000 in
theorem vecSums_any (V : Vec1) (V2 : Vec2) (va vb : Value) (n m : Nat) (f g : Nat → Int) (k : Int) (k0 : -9223372036854775808 ≤ k) (k1 : k ≤ 9223372036854775807) (w : World) (hV : VT w) (hA : Ar w va n f) (hB : Ar w vb m g) :
    Calls Tryd.prog 4 #[va, vb, .int .i64 k] w fun e w' => e = .returned (.bool true) ∧ Below w.heap.size w w' := by
  have HAB : Hid (Ar w va n f ∧ Ar w vb m g) := ⟨hA, hB⟩
  have HV : Hid (VT w) := hV
  obtain ⟨ada, ca, ba, oa, rfl, k1, k2, -, -⟩ := hA
  obtain ⟨adb, cb, bb, ob, rfl, q1, q2, -, -⟩ := hB
  go_enter Tryd.func4, Tryd.ntmps4
  go_wp2_with fail
  refine (vawake_any V _ hV).mono ?_
  rintro e w1 ⟨rfl, W1⟩
  have HW1 : Hid (Below w.heap.size w w1) := W1
  have HF : Hid (Calls Tryd.prog 10 #[.slice (some ⟨w1.heap.size, 0, none⟩) 2 2] (w1.alloc (.cells #[.slice ada n ca, .slice adb m cb] 22)) fun e w' => e = .returned (.bool (decide (n ≤ 200) && decide (m ≤ 200))) ∧ w' = (w1.alloc (.cells #[.slice ada n ca, .slice adb m cb] 22))) := few2_any w1 ada adb n m ca cb (by omega) (by omega)
  clear W1 hV k1 k2 q1 q2
  go_wp2_with fail
  refine HF.out.mono ?_
  rintro e w2 ⟨rfl, rfl⟩
  clear HF
  obtain ⟨R, hR⟩ : ∃ R, (decide (n ≤ 200) && decide (m ≤ 200)) = R := ⟨_, rfl⟩
  rw [hR]
  cases R
  · clear hR
    go_wp2
    go_ret
    exact ⟨rfl, bchain HW1.out (bel1' _ _)⟩
  have hnm : n ≤ 200 ∧ m ≤ 200 := by simpa using hR
  obtain ⟨hn, hm⟩ := hnm
  clear hR
  go_upto_region 6 with fail
  have L : Hid (L2 w (w1.heap.size + 1) (w1.heap.size + 1 + 1) 0 0 (((w1.alloc (.cells #[.slice ada n ca, .slice adb m cb] 22)).alloc (.cells #[.int .i64 0] 29)).alloc (.cells #[.int .i64 0] 32))) := l2_new' (bchain HW1.out (bel1' w1 _)) (alloc_size_eq w1 _) _ _
  have hs := HW1.out.size
  obtain ⟨du, hdu⟩ : ∃ du, w1.heap.size + 1 = du := ⟨_, rfl⟩
  have hd0 : w.heap.size ≤ du := by omega
  have hd1 : w.heap.size ≤ du + 1 := by omega
  rw [hdu] at L ⊢
  generalize (((w1.alloc (.cells #[.slice ada n ca, .slice adb m cb] 22)).alloc (.cells #[.int .i64 0] 29)).alloc (.cells #[.int .i64 0] 32)) = w3 at *
  clear hs hdu HW1
  go_wp2_with fail
  refine (plain_any _ n f (by omega) _ (HAB.out.1.later L.out.B)).mono ?_
  rintro e w5 ⟨v5, rfl, A5, O5, hb⟩
  have L5 : Hid (L2 w du (du + 1) 0 0 w5) := L.out.later hb
  have X5 : Hid (An du (du + 1) v5 n f w5) := An.new L.out A5 O5
  clear hb A5 O5 L
  go_wp2_with fail
  refine (plain_any _ m g (by omega) _ (HAB.out.2.later L5.out.B)).mono ?_
  rintro e w6 ⟨v6, rfl, A6, O6, hb⟩
  have T6 : Hid (St w du 0 0 v5 n f v6 m g w6) := ⟨L5.out.later hb, X5.out.later hb, An.new L5.out A6 O6, hd0⟩
  clear hb A6 O6 L5 X5
  have hsE : sE n = 0 := sE_few n hn
  have hdE := few_tn' n m hn hm
  have PS : Hid (∀ (W : World) (c cv : Int), 0 ≤ c → c ≤ 10000 → St w du c cv v5 n f v6 m g W → Calls Tryd.prog 20 #[.pointer (some ⟨du, 0, none⟩), .int .i64 k, .slice ada n ca] W fun e w' => ∃ v', e = .returned (.tuple #[v', .int .i64 0]) ∧ LL W w' v' n (fun i => clv (rnd (k * f i) 32)) 0 ∧ Un du (c + cE 0 (cntV (fun i => ovv (rnd (k * f i) 32)) n)) W w') := by
    intro W c cv c0 c1 hS
    have h := V2.scaleU k _ n f du c W k0 k1 (by omega) c0 (by omega) (HV.out.later hS.l.B) (HAB.out.1.later hS.l.B) (HAB.out.1.nb hd0) hS.l.u
    rw [hsE] at h
    exact h
  obtain ⟨E, hE⟩ : ∃ E, dE n m = E := ⟨_, rfl⟩
  rw [hE] at hdE
  have HdE : Hid (E = if n = m then 0 else 40) := hdE
  clear hdE
  have PA : Hid (∀ (W : World) (c cv : Int), 0 ≤ c → c ≤ 10000 → St w du c cv v5 n f v6 m g W → Calls Tryd.prog 24 #[.pointer (some ⟨du, 0, none⟩), .slice ada n ca, .slice adb m cb] W fun e w' => ∃ v', e = .returned (.tuple #[v', .int .i64 E]) ∧ LL W w' v' n (fun i => clv (f i + g i)) E ∧ Un du (c + cE E (cntV (fun i => ovv (f i + g i)) n)) W w') := by
    intro W c cv c0 c1 hS
    have h := V2.addU _ _ n m f g du c W (by omega) (by omega) c0 (by omega) (HV.out.later hS.l.B) (HAB.out.1.later hS.l.B) (HAB.out.2.later hS.l.B) (HAB.out.1.nb hd0) (HAB.out.2.nb hd0) hS.l.u
    rw [hE] at h
    exact h
  have PB : Hid (∀ (W : World) (c cv : Int), 0 ≤ c → c ≤ 10000 → St w du c cv v5 n f v6 m g W → Calls Tryd.prog 25 #[.pointer (some ⟨du, 0, none⟩), .slice ada n ca, .slice adb m cb] W fun e w' => ∃ v', e = .returned (.tuple #[v', .int .i64 E]) ∧ LL W w' v' n (fun i => clv (f i - g i)) E ∧ Un du (c + cE E (cntV (fun i => ovv (f i - g i)) n)) W w') := by
    intro W c cv c0 c1 hS
    have h := V2.subU _ _ n m f g du c W (by omega) (by omega) c0 (by omega) (HV.out.later hS.l.B) (HAB.out.1.later hS.l.B) (HAB.out.2.later hS.l.B) (HAB.out.1.nb hd0) (HAB.out.2.nb hd0) hS.l.u
    rw [hE] at h
    exact h
  have PX : Hid (∀ (W : World) (c cv : Int), 0 ≤ c → c ≤ 10000 → St w du c cv v5 n f v6 m g W → Calls Tryd.prog 26 #[.pointer (some ⟨du, 0, none⟩), .int .i64 k, .slice ada n ca, .slice adb m cb] W fun e w' => ∃ v', e = .returned (.tuple #[v', .int .i64 E]) ∧ LL W w' v' n (fun i => clv (rr (k * f i + g i * 4294967296) 32)) E ∧ Un du (c + cE E (cntV (fun i => ovv (rr (k * f i + g i * 4294967296) 32)) n)) W w') := by
    intro W c cv c0 c1 hS
    have h := V2.axpyU k _ _ n m f g du c W k0 k1 (by omega) (by omega) c0 (by omega) (HV.out.later hS.l.B) (HAB.out.1.later hS.l.B) (HAB.out.2.later hS.l.B) (HAB.out.1.nb hd0) (HAB.out.2.nb hd0) hS.l.u
    rw [hE] at h
    exact h
  have RS : Hid (∀ (W : World) (c cu : Int), 0 ≤ c → c ≤ 10000 → St w du cu c v5 n f v6 m g W → Calls Tryd.prog 22 #[.pointer (some ⟨du + 1, 0, none⟩), .int .i64 k, v5] W fun e w' => ∃ v', e = .returned v' ∧ Ar w' v' n (fun i => clv (rnd (k * f i) 32)) ∧ Ow W.heap.size v' ∧ Un (du + 1) (c + cntV (fun i => ovv (rnd (k * f i) 32)) n) W w') := by
    intro W c cu c0 c1 hS
    exact uscale_any k k0 k1 _ n f (du + 1) c (by omega) c0 (by omega) W hS.x.a hS.x.v hS.l.v.1 hS.l.v.2
  have RA : Hid (n = m → ∀ (W : World) (c cu : Int), 0 ≤ c → c ≤ 10000 → St w du cu c v5 n f v6 m g W → Calls Tryd.prog 28 #[.pointer (some ⟨du + 1, 0, none⟩), v5, v6] W fun e w' => ∃ v', e = .returned v' ∧ Ar w' v' n (fun i => clv (f i + g i)) ∧ Ow W.heap.size v' ∧ Un (du + 1) (c + cntV (fun i => ovv (f i + g i)) n) W w') := by
    intro hnm; subst hnm; intro W c cu c0 c1 hS
    exact uadd_any _ _ n f g (du + 1) c (by omega) c0 (by omega) W hS.x.a hS.y.a hS.x.v hS.y.v hS.l.v.1 hS.l.v.2
  have RB : Hid (n = m → ∀ (W : World) (c cu : Int), 0 ≤ c → c ≤ 10000 → St w du cu c v5 n f v6 m g W → Calls Tryd.prog 29 #[.pointer (some ⟨du + 1, 0, none⟩), v5, v6] W fun e w' => ∃ v', e = .returned v' ∧ Ar w' v' n (fun i => clv (f i - g i)) ∧ Ow W.heap.size v' ∧ Un (du + 1) (c + cntV (fun i => ovv (f i - g i)) n) W w') := by
    intro hnm; subst hnm; intro W c cu c0 c1 hS
    exact usub_any _ _ n f g (du + 1) c (by omega) c0 (by omega) W hS.x.a hS.y.a hS.x.v hS.y.v hS.l.v.1 hS.l.v.2
  have RX : Hid (n = m → ∀ (W : World) (c cu : Int), 0 ≤ c → c ≤ 10000 → St w du cu c v5 n f v6 m g W → Calls Tryd.prog 30 #[.pointer (some ⟨du + 1, 0, none⟩), .int .i64 k, v5, v6] W fun e w' => ∃ v', e = .returned v' ∧ Ar w' v' n (fun i => clv (rr (k * f i + g i * 4294967296) 32)) ∧ Ow W.heap.size v' ∧ Un (du + 1) (c + cntV (fun i => ovv (rr (k * f i + g i * 4294967296) 32)) n) W w') := by
    intro hnm; subst hnm; intro W c cu c0 c1 hS
    exact uaxpy_any k k0 k1 _ _ n f g (du + 1) c (by omega) c0 (by omega) W hS.x.a hS.y.a hS.x.v hS.y.v hS.l.v.1 hS.l.v.2
  have HP : Hid (∀ (W : World) (va vb : Value), Ar W va n f → Ar W vb m g → Calls Tryd.prog 12 #[va, vb] W fun e w' => e = .returned (.int .i64 E) ∧ w' = W) := by
    intro W va vb h1 h2
    rw [← hE]
    exact pair_any va vb n m f g W h1 h2
  clear hE hsE V V2
  obtain ⟨cS, hS⟩ : ∃ c, cntV (fun i => ovv (rnd (k * f i) 32)) n = c := ⟨_, rfl⟩
  have rS := cnt_rng (fun i => ovv (rnd (k * f i) 32)) n
  rw [hS] at PS RS rS
  clear hS
  obtain ⟨cA, hA⟩ : ∃ c, cntV (fun i => ovv (f i + g i)) n = c := ⟨_, rfl⟩
  have rA := cnt_rng (fun i => ovv (f i + g i)) n
  rw [hA] at PA RA rA
  clear hA
  obtain ⟨cB, hB⟩ : ∃ c, cntV (fun i => ovv (f i - g i)) n = c := ⟨_, rfl⟩
  have rB := cnt_rng (fun i => ovv (f i - g i)) n
  rw [hB] at PB RB rB
  clear hB
  obtain ⟨cX, hX⟩ : ∃ c, cntV (fun i => ovv (rr (k * f i + g i * 4294967296) 32)) n = c := ⟨_, rfl⟩
  have rX := cnt_rng (fun i => ovv (rr (k * f i + g i * 4294967296) 32)) n
  rw [hX] at PX RX rX
  clear hX
  rw [show cE 0 cS = cS from rfl] at PS
  go_wp2_with fail
  refine (PS.out _ (0) (0) (by omega) (by omega) T6.out).mono ?_
  rintro e w7 ⟨v7, rfl, hL, hU⟩
  have T7 : Hid (St w du (0 + cS) (0) v5 n f v6 m g w7) := T6.out.unu hU
  have Y7 : Hid (An du (du + 1) v7 n (fun i => clv (rnd (k * f i) 32)) w7) := An.new T6.out.l (hL.1 rfl) hL.2.2
  clear hL hU T6 PS
  go_wp2_with fail
  refine (RS.out _ (0) (0 + cS) (by omega) (by omega) T7.out).mono ?_
  rintro e w8 ⟨v8, rfl, hA, hO, hU⟩
  have T8 : Hid (St w du (0 + cS) (0 + cS) v5 n f v6 m g w8) := T7.out.unv hU
  have Y8 : Hid (Ar w8 v7 n (fun i => clv (rnd (k * f i) 32)) ∧ Ar w8 v8 n (fun i => clv (rnd (k * f i) 32))) := ⟨(Y7.out.unv hU).a, hA⟩
  clear hA hO hU T7 Y7 RS
  go_wp2_with fail
  refine (like_yes _ _ n (fun i => clv (rnd (k * f i) 32)) (by omega) du (du + 1) (0 + cS) _ Y8.out.1 Y8.out.2 T8.out.l.u T8.out.l.v).mono ?_
  rintro e w9 ⟨rfl, hb⟩
  have T9 : Hid (St w du (0 + cS) (0 + cS) v5 n f v6 m g w9) := T8.out.later hb
  clear hb T8 Y8
  go_wp2_with fail
  refine (clear_any du _ _ T9.out.l.u.1 T9.out.l.u.2).mono ?_
  rintro e w10 ⟨rfl, hU⟩
  have T10 : Hid (St w du 0 (0 + cS) v5 n f v6 m g w10) := T9.out.unu hU
  clear hU T9
  have xV := T10.out.l.v.1
  have fV := T10.out.l.v.2
  have T11 : Hid (St w du 0 0 v5 n f v6 m g (w10.setCell ⟨du + 1, 0, none⟩ (.int .i64 0))) := T10.out.unv (Un.set xV fV)
  go_upto_region 12 with fail
  generalize w10.setCell ⟨du + 1, 0, none⟩ (.int .i64 0) = w11 at *
  clear xV fV T10
  go_wp2_with fail
  refine (HP.out _ _ _ T11.out.x.a T11.out.y.a).mono ?_
  rintro e w12 ⟨rfl, rfl⟩
  clear HP
  go_wp2_with fail
  refine (PA.out _ 0 0 (by omega) (by omega) T11.out).mono ?_
  rintro e w13 ⟨v13, rfl, hL, hU⟩
  have T13 : Hid (St w du (0 + cE E cA) 0 v5 n f v6 m g w13) := T11.out.unu hU
  have Y13 : Hid (E = 0 → An du (du + 1) v13 n (fun i => clv (f i + g i)) w13) := fun e => An.new T11.out.l (hL.1 e) hL.2.2
  have Z13 : Hid (E ≠ 0 → ∃ ad cap, v13 = .slice ad 0 cap) := hL.2.1
  clear hL hU T11 PA
  by_cases h : n = m
  · have hdE := HdE.out
    rw [if_pos h] at hdE
    clear HdE
    subst hdE
    have Hh : Hid (n = m) := h
    clear h
    rw [show cE 0 cA = cA from rfl] at T13
    rw [show cE 0 cB = cB from rfl] at PB
    rw [show cE 0 cX = cX from rfl] at PX
    have Y13' : Hid (An du (du + 1) v13 n (fun i => clv (f i + g i)) w13) := Y13.out rfl
    clear Y13 Z13
    go_wp2_with fail
    refine (RA.out Hh.out _ (0) (0 + cA) (by omega) (by omega) T13.out).mono ?_
    rintro e w14 ⟨v14, rfl, hA, hO, hU⟩
    have T14 : Hid (St w du (0 + cA) (0 + cA) v5 n f v6 m g w14) := T13.out.unv hU
    have Y14 : Hid (Ar w14 v13 n (fun i => clv (f i + g i)) ∧ Ar w14 v14 n (fun i => clv (f i + g i))) := ⟨(Y13'.out.unv hU).a, hA⟩
    clear hA hO hU T13 Y13' RA
    go_wp2_with fail
    refine (like_yes _ _ n (fun i => clv (f i + g i)) (by omega) du (du + 1) (0 + cA) _ Y14.out.1 Y14.out.2 T14.out.l.u T14.out.l.v).mono ?_
    rintro e w15 ⟨rfl, hb⟩
    have T15 : Hid (St w du (0 + cA) (0 + cA) v5 n f v6 m g w15) := T14.out.later hb
    clear hb T14 Y14
    go_wp2_with fail
    refine (PB.out _ (0 + cA) (0 + cA) (by omega) (by omega) T15.out).mono ?_
    rintro e w16 ⟨v16, rfl, hL, hU⟩
    have T16 : Hid (St w du (0 + cA + cB) (0 + cA) v5 n f v6 m g w16) := T15.out.unu hU
    have Y16 : Hid (An du (du + 1) v16 n (fun i => clv (f i - g i)) w16) := An.new T15.out.l (hL.1 rfl) hL.2.2
    clear hL hU T15 PB
    go_wp2_with fail
    refine (RB.out Hh.out _ (0 + cA) (0 + cA + cB) (by omega) (by omega) T16.out).mono ?_
    rintro e w17 ⟨v17, rfl, hA, hO, hU⟩
    have T17 : Hid (St w du (0 + cA + cB) (0 + cA + cB) v5 n f v6 m g w17) := T16.out.unv hU
    have Y17 : Hid (Ar w17 v16 n (fun i => clv (f i - g i)) ∧ Ar w17 v17 n (fun i => clv (f i - g i))) := ⟨(Y16.out.unv hU).a, hA⟩
    clear hA hO hU T16 Y16 RB
    go_wp2_with fail
    refine (like_yes _ _ n (fun i => clv (f i - g i)) (by omega) du (du + 1) (0 + cA + cB) _ Y17.out.1 Y17.out.2 T17.out.l.u T17.out.l.v).mono ?_
    rintro e w18 ⟨rfl, hb⟩
    have T18 : Hid (St w du (0 + cA + cB) (0 + cA + cB) v5 n f v6 m g w18) := T17.out.later hb
    clear hb T17 Y17
    go_wp2_with fail
    refine (PX.out _ (0 + cA + cB) (0 + cA + cB) (by omega) (by omega) T18.out).mono ?_
    rintro e w19 ⟨v19, rfl, hL, hU⟩
    have T19 : Hid (St w du (0 + cA + cB + cX) (0 + cA + cB) v5 n f v6 m g w19) := T18.out.unu hU
    have Y19 : Hid (An du (du + 1) v19 n (fun i => clv (rr (k * f i + g i * 4294967296) 32)) w19) := An.new T18.out.l (hL.1 rfl) hL.2.2
    clear hL hU T18 PX
    go_wp2_with fail
    refine (RX.out Hh.out _ (0 + cA + cB) (0 + cA + cB + cX) (by omega) (by omega) T19.out).mono ?_
    rintro e w20 ⟨v20, rfl, hA, hO, hU⟩
    have T20 : Hid (St w du (0 + cA + cB + cX) (0 + cA + cB + cX) v5 n f v6 m g w20) := T19.out.unv hU
    have Y20 : Hid (Ar w20 v19 n (fun i => clv (rr (k * f i + g i * 4294967296) 32)) ∧ Ar w20 v20 n (fun i => clv (rr (k * f i + g i * 4294967296) 32))) := ⟨(Y19.out.unv hU).a, hA⟩
    clear hA hO hU T19 Y19 RX
    go_wp2_with fail
    refine (like_yes _ _ n (fun i => clv (rr (k * f i + g i * 4294967296) 32)) (by omega) du (du + 1) (0 + cA + cB + cX) _ Y20.out.1 Y20.out.2 T20.out.l.u T20.out.l.v).mono ?_
    rintro e w21 ⟨rfl, hb⟩
    have T21 : Hid (St w du (0 + cA + cB + cX) (0 + cA + cB + cX) v5 n f v6 m g w21) := T20.out.later hb
    clear hb T20 Y20
    go_wp2
    go_ret
    exact ⟨rfl, T21.out.l.B⟩
  · have hdE := HdE.out
    rw [if_neg h] at hdE
    clear HdE
    subst hdE
    rw [show cE 40 cA = 0 from rfl] at T13
    rw [show cE 40 cB = 0 from rfl] at PB
    rw [show cE 40 cX = 0 from rfl] at PX
    rw [show (0 : Int) + 0 = 0 from rfl] at T13
    obtain ⟨ad1, cp1, rfl⟩ := Z13.out (by omega)
    clear Y13 Z13 RA RB RX h
    go_wp2_with fail
    refine (PB.out _ 0 0 (by omega) (by omega) T13.out).mono ?_
    rintro e w14 ⟨v14, rfl, hL, hU⟩
    have T14 : Hid (St w du 0 0 v5 n f v6 m g w14) := T13.out.unu hU
    obtain ⟨ad2, cp2, rfl⟩ := hL.2.1 (by omega)
    clear hL hU T13 PB
    go_wp2_with fail
    refine (PX.out _ 0 0 (by omega) (by omega) T14.out).mono ?_
    rintro e w15 ⟨v15, rfl, hL, hU⟩
    have T15 : Hid (St w du 0 0 v5 n f v6 m g w15) := T14.out.unu hU
    obtain ⟨ad3, cp3, rfl⟩ := hL.2.1 (by omega)
    clear hL hU T14 PX
    have xU : Hid (Uc w15 du 0) := T15.out.l.u
    go_wp2_with (go_at_call 27; refine (refused_yes _ _ _ 40 du _ rfl xU.out).mono ?_; rintro e wq ⟨rfl, rfl⟩)
    go_wp2
    go_ret
    exact ⟨rfl, T15.out.l.B⟩
end Go.Proofs.YtldnnjcfihjkdaaDoor
