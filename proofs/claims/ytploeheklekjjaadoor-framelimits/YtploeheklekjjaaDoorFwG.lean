/-
  The program's frame: Hunt; all its contracts.
-/
import Derived.Test.YtploeheklekjjaaDoorFwF
set_option linter.unusedVariables false
set_option linter.unusedSimpArgs false
namespace Go.Proofs.YtploeheklekjjaaDoor
open Go.RowKit Go.Shelf
attribute [local go_sem] Oper.semAt_some

theorem hnt_pre {l : List Nat} {pre : List (Nat × Nat × List Nat)} {p : Nat} (h : hnt l 0 = pre ++ hnt l p) (hp : p < l.length) (hE : opE (l.drop p) = 0) : hnt l 0 = (pre ++ [(p, opK (l.drop p), opP (l.drop p))]) ++ hnt l (p + opN (l.drop p)) := by
  rw [h, hnt_ok hp hE, List.append_assoc]
  rfl
/-- So many frames were found ahead of a place. -/
def Hf (l : List Nat) (k p : Nat) : Prop := ∃ pre : List (Nat × Nat × List Nat), pre.length = k ∧ hnt l 0 = pre ++ hnt l p
theorem hf_zero (l : List Nat) : Hf l 0 0 := ⟨[], rfl, rfl⟩
theorem Hf.yes {l : List Nat} {k p : Nat} (h : Hf l k p) (hp : p < l.length) (hE : opE (l.drop p) = 0) : (hnt l 0)[k]? = some (p, opK (l.drop p), opP (l.drop p)) ∧ Hf l (k + 1) (p + max (opN (l.drop p)) 1) ∧ k + 1 ≤ (hnt l 0).length := by
  obtain ⟨pre, h1, h2⟩ := h
  have h3 := hnt_pre h2 hp hE
  have h4 := opN_pos hE
  rw [show max (opN (l.drop p)) 1 = opN (l.drop p) by omega]
  refine ⟨by rw [h3, ← h1]; simp, ⟨pre ++ [(p, opK (l.drop p), opP (l.drop p))], by rw [List.length_append, h1]; rfl, h3⟩, ?_⟩
  rw [h3, List.length_append, List.length_append, h1]
  simp
theorem Hf.no {l : List Nat} {k p : Nat} (h : Hf l k p) (hp : p < l.length) (hE : opE (l.drop p) ≠ 0) : Hf l k (p + max (opN (l.drop p)) 1) := by
  obtain ⟨pre, h1, h2⟩ := h
  have h3 := (op_no rfl hE).2.2
  rw [h3, show max 0 1 = 1 by omega]
  exact ⟨pre, h1, by rw [h2, hnt_no hp hE]⟩
theorem Hf.all {l : List Nat} {k p : Nat} (h : Hf l k p) (hp : l.length ≤ p) : k = (hnt l 0).length := by
  obtain ⟨pre, h1, h2⟩ := h
  rw [hnt_end hp, List.append_nil] at h2
  rw [h2, h1]
set_option maxRecDepth 100000 in
set_option maxHeartbeats 8000000 in
theorem hunt1_tells (B : Nat) (v : Value) (l : List Nat) (hbt : ∀ c ∈ l, c < 256) (hl : l.length ≤ 90000) (FB : Nat → Prop) (W : World) (hB : W.cell? ⟨B, 0, none⟩ = some v) (hv : Bs W v l) (hT : FT W) (hFB : ∀ k, FB k → k < W.heap.size) (hFt : NT FB) :
    Tells Fence.wide 9 Tryd.prog 29 #[.pointer (some ⟨B, 0, none⟩)] (hnt l 0) EH FB W := by
  intro l0 J Jx W1 hb hl1 hl2 hJ hJx hY h0
  have HL : Hid (Bs W1 v l ∧ (∀ c ∈ l, c < 256) ∧ FT W1 ∧ l.length ≤ 90000) := ⟨hv.later hb, hbt, hT.later hb, hl⟩
  have hB1 := cell_later hb hB
  obtain ⟨ad, cap, rfl, -, -⟩ := hv.len
  obtain ⟨n, hn⟩ : ∃ n, l.length = n := ⟨_, rfl⟩
  have HN : Hid (l.length = n) := hn
  rw [hn] at hB1 HL
  have HZ : Hid ((∀ k, FB k → k < W.heap.size) ∧ NT FB ∧ W.heap.size ≤ l0 ∧ l0 < W1.heap.size ∧ W.heap.size ≤ W1.heap.size ∧ (1 < W.heap.size ∧ 0 < W.heap.size)) := ⟨hFB, hFt, hl1, hl2, hb.size, hT.low⟩
  have HJ : Hid ((∀ i X X' (F : Nat → Prop), J i X → (∀ k, F k → W1.heap.size ≤ k) → Kp F X X' → J i X') ∧ (∀ i X X' (F : Nat → Prop), Jx i X → (∀ k, F k → W1.heap.size ≤ k) → Kp F X X' → Jx i X') ∧ J 0 W1) := ⟨hJ, hJx, h0⟩
  have HY : Hid (∀ i y args X, (hnt l 0)[i]? = some y → J i X → EH y args X → YieldAt Fence.wide (9 - 1) Tryd.prog l0 args X fun e X' =>
      (e = .returned (.bool true) ∧ J (i + 1) X' ∧ Kp (fun k => FB k ∨ k = l0) X X') ∨ (e = .returned (.bool false) ∧ Jx (i + 1) X' ∧ ∃ FC : Nat → Prop, (∀ k, FC k → k < W.heap.size) ∧ Kp (fun k => FC k ∨ k = l0) X X')) := hY
  clear hb hB hv hT hbt hl hn hJ hJx h0 hFB hFt hl1 hl2 hY
  refine callsIn_wide.2 ((callsIn_wide (n := 10)).1 ?_)
  show CallsIn Fence.wide 10 Tryd.prog 29 #[.func (.yield l0) #[] #[], .pointer (some ⟨B, 0, none⟩)] W1 _
  refine callsIn_of_wp_marks Tryd.func29 rfl trivial ?_ rfl
  refine wpIn_wide.2 ?_
  simp only [Tryd.ntmps29, List.size_toArray, List.length_cons, List.length_nil, Nat.reduceAdd, Nat.reduceSub, Array.replicate_succ, Array.replicate_zero, List.push_toArray, List.append_toArray, List.nil_append, List.cons_append]
  obtain ⟨bt, hbt⟩ : ∃ bt, W1.heap.size = bt := ⟨_, rfl⟩
  have hB2 : ∀ ob, (W1.alloc ob).cell? ⟨B, 0, none⟩ = some (.slice ad n cap) := fun ob => cell_later (bel1 W1 ob) hB1
  obtain ⟨W2, hW2⟩ : ∃ W2, W2 = W1.alloc (.cells #[.func (.yield l0) #[] #[]] 70) := ⟨_, rfl⟩
  have hB22 : W2.cell? ⟨B, 0, none⟩ = some (.slice ad n cap) := by rw [hW2]; exact hB2 _
  have HW2 : Hid (Below W1.heap.size W1 W2 ∧ W2.cell? ⟨bt, 0, none⟩ = some (.func (.yield l0) #[] #[]) ∧ W2.heap.size = bt + 1) := ⟨by rw [hW2]; exact bel1 _ _, by rw [hW2, ← hbt]; simp [go_sem], by rw [hW2, World.size_alloc, hbt]⟩
  have HBT : Hid (W1.heap.size = bt) := hbt
  go_upto_region 1 with fail
  rw [← hW2]
  clear hW2 hB2 hB1 hbt
  go_wp2_with fail
  refine (clone_any W2 _ l (HL.out.1.later HW2.out.1) (by have := HN.out; have := HL.out.2.2.2; omega)).mono ?_
  rintro e w3 ⟨v3, rfl, hO3, hB3⟩
  obtain ⟨a3, p3, rfl⟩ := hO3.sl
  rw [HN.out] at hO3 ⊢
  have HW3 : Hid (Below W1.heap.size W1 w3 ∧ w3.cell? ⟨bt, 0, none⟩ = some (.func (.yield l0) #[] #[]) ∧ Bs w3 (.slice a3 n p3) l ∧ Ow (bt + 1) (.slice a3 n p3) ∧ bt + 1 ≤ w3.heap.size) := ⟨bchain HW2.out.1 hB3, cell_later hB3 HW2.out.2.1, hO3.bs.1, by have h := hO3.bs.2; rw [HW2.out.2.2] at h; exact h, by have h := hB3.size; rw [HW2.out.2.2] at h; exact h⟩
  clear hO3 hB3 HW2 hB22
  go_wp2_with fail
  refine (looks_any w3 _ l HW3.out.2.2.1).mono ?_
  rintro e wL ⟨rfl, hBL, hcL, hsL⟩
  obtain ⟨b9, hb9⟩ : ∃ b9, w3.heap.size = b9 := ⟨_, rfl⟩
  rw [hb9] at hcL hsL ⊢
  have HLL : Hid (Below W1.heap.size W1 wL ∧ wL.heap.size = b9 + 1 ∧ bt + 1 ≤ b9 ∧ wL.cell? ⟨b9, 0, none⟩ = some (.slice a3 n p3) ∧ Bs wL (.slice a3 n p3) l ∧ FT wL ∧ wL.cell? ⟨bt, 0, none⟩ = some (.func (.yield l0) #[] #[])) := ⟨bchain HW3.out.1 hBL, hsL, by have := HW3.out.2.2.2.2; omega, hcL, HW3.out.2.2.1.later hBL, (HL.out.2.2.1.later HW3.out.1).later hBL, cell_later hBL HW3.out.2.1⟩
  have HO3 : Hid (Ow (bt + 1) (.slice a3 n p3)) := HW3.out.2.2.2.1
  have HJL : Hid (J 0 wL) := HJ.out.1 0 W1 wL (fun _ => False) HJ.out.2.2 (fun _ h => h.elim) (Kp.of HLL.out.1)
  clear hBL hcL hsL hb9 HW3
  go_wp2_with fail
  refine (wpIn_wide (n := 10)).1 ?_
  refine range_told0 (FB := fun k => FB k ∨ k = l0) rfl (by omega) (gf := 32) (lb := #[.pointer (some ⟨b9, 0, none⟩)]) rfl trivial (enters_of Tryd.func32 (by kernel_rfl) rfl)
    (looks1_tells b9 _ l HL.out.2.1 (by have := HN.out; have := HL.out.2.2.2; omega) (fun k => FB k ∨ k = l0) wL HLL.out.2.2.2.1 HLL.out.2.2.2.2.1 HLL.out.2.2.2.2.2.1 ?t1 ?t2 ?t3) ?f4 ?f5 (fun k => k < W1.heap.size) ?f6
    (fun i X => ∃ (p k : Nat), Lk l i p ∧ Hf l k p ∧ J k X ∧ X.cell? ⟨bt, 0, none⟩ = some (.func (.yield l0) #[] #[]))
    (fun c i X => c = .ret ∧ ∃ k, k ≤ (hnt l 0).length ∧ Jx k X)
    (fun i a' X => ∃ (p ee kk : Nat) (pp : List Nat) (k : Nat) (ap : Option Addr) (np cp bx : Nat), (Lk l i p ∧ p < l.length ∧ opE (l.drop p) = ee ∧ opK (l.drop p) = kk ∧ opP (l.drop p) = pp) ∧ Hf l k p ∧ a' = { tmps := #[Value.func (Fn.yield l0) #[] #[], Value.pointer (some ⟨B, 0, none⟩), Value.pointer (some ⟨bt, 0, none⟩), Value.int IntKind.i64 (p : Int), Value.pointer (some ⟨bx, 0, none⟩), Value.slice ad n cap, Value.slice a3 n p3, Value.func (Fn.func 32) #[] #[Value.pointer (some ⟨b9, 0, none⟩)], Value.int IntKind.i64 (p : Int), Value.agg #[Value.int IntKind.i64 (kk : Int), Value.slice ap np cp, Value.int IntKind.i64 (ee : Int)], undef, undef, undef, undef, undef, undef, undef, undef, undef, undef, undef], defers := [] } ∧ J k X ∧ X.cell? ⟨bt, 0, none⟩ = some (.func (.yield l0) #[] #[]) ∧ Lx bx kk ee (.slice ap np cp) pp X ∧ wL.heap.size + 2 ≤ bx ∧ Ow (wL.heap.size + 2) (.slice ap np cp)) ?f7 ?f8 ?f9 ?f10 ?assign ?body ?done ?left
  case t1 =>
    obtain ⟨z1, z2, z3, z4, z5, z6⟩ := HZ.out
    exact ⟨fun q => by rcases q with q | q; exact z2.1 q; omega, fun q => by rcases q with q | q; exact z2.2 q; omega⟩
  case t2 =>
    obtain ⟨z1, z2, z3, z4, z5, z6⟩ := HZ.out
    intro a n' cap' e hp q
    have h1 := HO3.out a n' cap' e hp
    have h2 := HBT.out
    rcases q with q | q
    · have := z1 _ q; omega
    · omega
  case t3 =>
    obtain ⟨z1, z2, z3, z4, z5, z6⟩ := HZ.out
    have h2 := HBT.out
    have h3 := HLL.out.2.2.1
    rintro (q | q)
    · have := z1 _ q; omega
    · omega
  case f4 => rintro y args Xp X ⟨ap, np, cp, rfl, -, -⟩; rfl
  case f5 =>
    obtain ⟨z1, z2, z3, z4, z5, z6⟩ := HZ.out
    have h2 := HBT.out
    have h3 := HLL.out.2.2.1
    have h4 := HLL.out.2.1
    rintro k (q | q)
    · have := z1 _ q; omega
    · omega
  case f6 => intro k hk; have h2 := HBT.out; have h3 := HLL.out.2.2.1; have h4 := HLL.out.2.1; omega
  case f7 =>
    rintro i X X' ⟨p, k, h1, h2, h3, h4⟩ kk
    have q2 := HBT.out
    have q3 := HLL.out.2.2.1
    have q4 := HLL.out.2.1
    exact ⟨p, k, h1, h2, HJ.out.1 _ _ _ _ h3 (fun j hj => by omega) kk, kk.cell (a := ⟨bt, 0, none⟩) (by dsimp only; omega) h4⟩
  case f8 =>
    rintro c i X X' ⟨rfl, k, h1, h2⟩ kk
    have q2 := HBT.out
    have q3 := HLL.out.2.2.1
    have q4 := HLL.out.2.1
    exact ⟨rfl, k, h1, HJ.out.2.1 _ _ _ _ h2 (fun j hj => by omega) kk⟩
  case f9 =>
    rintro i a' X X' ⟨p, ee, kk, pp, k, ap, np, cp, bx, h1, h2, ha, h3, h4, h5, h6, h7⟩ kp
    have q2 := HBT.out
    have q3 := HLL.out.2.2.1
    have q4 := HLL.out.2.1
    exact ⟨p, ee, kk, pp, k, ap, np, cp, bx, h1, h2, ha, HJ.out.1 _ _ _ _ h3 (fun j hj => by omega) kp, kp.cell (a := ⟨bt, 0, none⟩) (by dsimp only; omega) h4, h5.put (by omega) (ow_apart h7 (by omega)) kp, h6, h7⟩
  case f10 => exact ⟨0, 0, lk_zero l, hf_zero l, HJL.out, HLL.out.2.2.2.2.2.2⟩
  case assign =>
    rintro i y args Xp X hy ⟨p, k, hlk, hhf, hJ, hct⟩ hpX ⟨ap, np, cp, rfl, hp, hO⟩ hsz hno
    obtain ⟨hpl, hye⟩ := hlk.of hy
    have HX : Hid (J k X ∧ X.cell? ⟨bt, 0, none⟩ = some (.func (.yield l0) #[] #[]) ∧ Bs X (.slice ap np cp) y.2.2.2 ∧ Ow (wL.heap.size + 2) (.slice ap np cp) ∧ wL.heap.size + 2 ≤ X.heap.size) := ⟨HJ.out.1 _ _ _ (fun _ => False) hJ (fun _ h => h.elim) (Kp.of hpX), cell_later hpX hct, hp, hO.low hsz, Nat.le_trans hsz hpX.size⟩
    have HP : Hid ((Lk l i p ∧ p < l.length ∧ opE (l.drop p) = y.2.1 ∧ opK (l.drop p) = y.2.2.1 ∧ opP (l.drop p) = y.2.2.2) ∧ Hf l k p ∧ y.1 = p) := ⟨⟨hlk, hpl, by rw [hye], by rw [hye], by rw [hye]⟩, hhf, by rw [hye]⟩
    clear hy hlk hhf hJ hct hpX hp hO hsz hno hpl hye
    obtain ⟨yp, ye, yk, yP⟩ := y
    obtain ⟨h1, h2, h3⟩ := HP.out
    dsimp only at h1 h3 HX ⊢
    subst h3
    clear HP
    have HP : Hid ((Lk l i yp ∧ yp < l.length ∧ opE (l.drop yp) = ye ∧ opK (l.drop yp) = yk ∧ opP (l.drop yp) = yP) ∧ Hf l k yp) := ⟨h1, h2⟩
    clear h1 h2
    gi_wp2
    refine ⟨⟨yp, ye, yk, yP, k, ap, np, cp, X.heap.size, HP.out.1, HP.out.2, rfl, HJ.out.1 _ _ _ (fun _ => False) HX.out.1 (fun _ h => h.elim) (Kp.of (bel1 _ _)), cell_later (bel1 _ _) HX.out.2.1, ⟨by simp [go_sem], by simp [go_sem], by simp [go_sem], HX.out.2.2.1.later (bel1 _ _)⟩, HX.out.2.2.2.2, HX.out.2.2.2.1⟩, Kq.below (bel1 _ _) HX.out.2.2.2.2⟩
  case done =>
    rintro X ⟨p, k, hlk, hhf, hJ, hct⟩ hD
    have hk := hhf.all hlk.stop
    subst hk
    refine ⟨by simp, Or.inl ⟨wL.heap.size, _, rfl, run_takeDeferred (ds := []) hD, ?_⟩⟩
    have hJ2 := HJ.out.1 _ _ _ _ hJ (fun j hj => by have q2 := HBT.out; have q3 := HLL.out.2.2.1; have q4 := HLL.out.2.1; omega) (kp_put X wL.heap.size (.deferred none))
    exact ⟨_, results_none rfl _ _ _, ⟨_, rfl⟩, Or.inl hJ2⟩
  case left =>
    rintro c i X hi ⟨rfl, k, h1, h2⟩ hD
    have HD : Hid (X.heap[wL.heap.size]? = some (.deferred (some []))) := hD
    have hJ2 := hidI (HJ.out.2.1 _ _ _ _ h2 (fun j hj => by have q2 := HBT.out; have q3 := HLL.out.2.2.1; have q4 := HLL.out.2.1; omega) (kp_put X wL.heap.size (.deferred none)))
    clear hD h2 hi
    refine wpIn_wide.2 ?_
    go_wp2
    refine ⟨by simp, Or.inl ⟨wL.heap.size, _, rfl, run_takeDeferred (ds := []) HD.out, ?_⟩⟩
    exact ⟨_, results_none rfl _ _ _, ⟨_, rfl⟩, Or.inr ⟨k, h1, hJ2.out⟩⟩
  case body =>
    rintro i y0 a' X hy0 ⟨p, ee, kk, pp, k, ap, np, cp, bx, ⟨hlk, hpl, hee, hkk, hpp⟩, hhf, rfl, hJ, hct, hlx, hbx, hOw⟩ hsz
    clear hy0 y0
    have HP : Hid (Lk l (i + 1) (p + max (opN (l.drop p)) 1)) := hlk.next hpl
    have x0 := hlx.x0
    have x1 := hlx.x1
    have x2 := hlx.x2
    by_cases hE : ee = 0
    · subst hE
      obtain ⟨g1, g2, g3⟩ := hhf.yes hpl hee
      rw [hkk, hpp] at g1
      have hnp : np = pp.length := by
        obtain ⟨_, _, e, _, _⟩ := hlx.pl.len
        injection e
      subst hnp
      obtain ⟨fn, tmps, assign, body, hy, hR⟩ := HY.out k (p, kk, pp) #[.int .i64 (p : Int), .agg #[.int .i64 (kk : Int), .slice ap pp.length cp]] X g1 hJ ⟨ap, pp.length, cp, rfl, hlx.pl⟩
      have HG : Hid (Hf l (k + 1) (p + max (opN (l.drop p)) 1) ∧ k + 1 ≤ (hnt l 0).length) := ⟨g2, g3⟩
      clear g1 g2 g3 hlk hpl hee hkk hpp hhf hJ hlx hbx hOw hsz
      have HCT : Hid (X.cell? ⟨bt, 0, none⟩ = some (.func (.yield l0) #[] #[])) := hct
      gi_wp2
      refine (roundIn_any hR).mono ?_
      rintro e X3 (⟨rfl, hJ3, hK3⟩ | ⟨rfl, hJx3, FC, hFC, hK3⟩)
      · have HX3 : Hid (J (k + 1) X3 ∧ Kp (fun k => FB k ∨ k = l0) X X3) := ⟨hJ3, hK3⟩
        clear hJ3 hK3 hR hy x0 x1 x2 hct
        gi_wp2
        obtain ⟨z1, z2, z3, z4, z5, z6⟩ := HZ.out
        have q2 := HBT.out
        exact ⟨⟨_, k + 1, HP.out, HG.out.1, HX3.out.1, HX3.out.2.cell (a := ⟨bt, 0, none⟩) (fun q => by rcases q with q | q; exact absurd (z1 _ q) (by dsimp only; omega); dsimp only at q; omega) HCT.out⟩, Kq.of HX3.out.2⟩
      · have HX3 : Hid (Jx (k + 1) X3 ∧ (∀ k, FC k → k < W.heap.size) ∧ Kp (fun k => FC k ∨ k = l0) X X3) := ⟨hJx3, hFC, hK3⟩
        clear hJx3 hK3 hFC hR hy x0 x1 x2 hct
        gi_wp2
        obtain ⟨z1, z2, z3, z4, z5, z6⟩ := HZ.out
        exact ⟨⟨rfl, k + 1, HG.out.2, HX3.out.1⟩, Kq.of (HX3.out.2.2.mono (fun j hj => by rcases hj with q | q; have := HX3.out.2.1 _ q; omega; omega))⟩
    · have hEI : ¬ (ee : Int) = 0 := by omega
      have HG : Hid (Hf l k (p + max (opN (l.drop p)) 1) ∧ J k X ∧ X.cell? ⟨bt, 0, none⟩ = some (.func (.yield l0) #[] #[])) := ⟨hhf.no hpl (by omega), hJ, hct⟩
      clear hlk hpl hee hkk hpp hhf hJ hlx hbx hOw hsz hct
      gi_wp2
      refine ⟨fun _ h => (by cases h), ?_⟩
      gi_wp2
      exact ⟨⟨_, k, HP.out, HG.out.1, HG.out.2.1, HG.out.2.2⟩, Kq.of (Kp.refl _ _)⟩
set_option maxRecDepth 100000 in
set_option maxHeartbeats 4000000 in
theorem hunt13 (w : World) (v : Value) (l : List Nat) (h : Bs w v l) (hb : ∀ c ∈ l, c < 256) (hl : l.length ≤ 90000) (hT : FT w) :
    Calls Tryd.prog 19 #[v] w fun e w' => ∃ gf lb, e = .returned (.func (.func gf) #[] lb) ∧ Below w.heap.size w w' ∧ (∀ args W, (callFunc gf args).run Tryd.prog W = .ok (.enter gf args) W) ∧
      ∀ (FB : Nat → Prop) (W : World), (∀ k, FB k → k < w.heap.size) → Nf FB v → NT FB → Kp FB w' W → Tells Fence.wide 9 Tryd.prog gf lb (hnt l 0) EH FB W := by
  have hmf : ∀ (fn : Fn) (first cap : Array Value) (w : World), (Instr.makeFunc fn first cap).run Tryd.prog w = .ok (.func fn first cap) w := fun _ _ _ _ => rfl
  have HL : Hid (Bs w v l ∧ (∀ c ∈ l, c < 256) ∧ l.length ≤ 90000 ∧ FT w) := ⟨h, hb, hl, hT⟩
  obtain ⟨ad, cap, rfl, -, -⟩ := h.len
  obtain ⟨n, hn⟩ : ∃ n, l.length = n := ⟨_, rfl⟩
  rw [hn] at HL ⊢
  clear h hb hl hT
  go_enter Tryd.func19, Tryd.ntmps19
  go_wp2
  go_ret
  refine ⟨29, #[.pointer (some ⟨w.heap.size, 0, none⟩)], rfl, bel1 _ _, enters_of Tryd.func29 (by kernel_rfl) rfl, ?_⟩
  intro FB W hFB hnf hFt hK
  have hbx : ¬ FB w.heap.size := fun q => by have := hFB _ q; omega
  refine hunt1_tells w.heap.size (.slice ad n cap) l HL.out.2.1 (by rw [hn]; exact HL.out.2.2.1) FB W (hK.cell (a := ⟨w.heap.size, 0, none⟩) hbx (by simp [go_sem])) (hK.bs (HL.out.1.later (bel1 _ _)) hnf) ((HL.out.2.2.2.later (bel1 _ _)).kp hK hFt) (fun k hk => ?_) hFt
  have h1 := hFB k hk
  have h2 := hK.size
  rw [World.size_alloc] at h2
  omega
theorem fr1 : Fr1 := ⟨sealOk13, sealKind13, sealSize13, open13⟩
theorem fr2 : Fr2 := ⟨split13⟩
theorem fr3 : Fr3 := ⟨hunt13⟩
end Go.Proofs.YtploeheklekjjaaDoor
