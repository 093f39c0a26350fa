/-
  The law FrameRows: frames one behind the other, split and hunted for.
-/
import Derived.Test.YtploeheklekjjabDoorFrMath3
import Derived.Test.YtploeheklekjjabDoorFrLawB
import Derived.TacticsInMore
import Derived.Shelf.Abstract
set_option linter.unusedVariables false
set_option linter.unusedSimpArgs false
namespace Go.Proofs.YtploeheklekjjabDoor
open Go.RowKit Go.Shelf
attribute [local go_sem] Oper.semAt_some

/-- The kinds as natural numbers. -/
def nat13 (gs : List (Int × List Nat)) : List (Nat × List Nat) := gs.map fun g => (g.1.toNat, g.2)
def okG (g : Int × List Nat) : Prop := 1 ≤ g.1 ∧ g.1 ≤ 255 ∧ (∀ c ∈ g.2, c < 256) ∧ g.2.length ≤ 200
theorem okG.okF {g : Int × List Nat} (h : okG g) : okF (g.1.toNat, g.2) := ⟨by have := h.1; show 1 ≤ g.1.toNat; omega, by have := h.2.1; show g.1.toNat ≤ 255; omega, h.2.2.1, h.2.2.2⟩
theorem nat13_ok {gs : List (Int × List Nat)} (h : ∀ g ∈ gs, okG g) : ∀ f ∈ nat13 gs, okF f := by
  intro f hf
  unfold nat13 at hf
  obtain ⟨g, hg, rfl⟩ := List.mem_map.1 hf
  exact (h g hg).okF
theorem nat13_take (gs : List (Int × List Nat)) (j : Nat) (hj : j < gs.length) : nat13 (gs.take (j + 1)) = nat13 (gs.take j) ++ [((gs.getD j gr0).1.toNat, (gs.getD j gr0).2)] := by
  have e : gs.getD j gr0 = gs[j] := by simp [List.getD, hj]
  rw [e, List.take_add_one]
  unfold nat13
  rw [List.map_append]
  congr 1
  simp [hj]
theorem getG_mem {gs : List (Int × List Nat)} {j : Nat} (h : j < gs.length) : gs.getD j gr0 ∈ gs := by
  have e : gs.getD j gr0 = gs[j] := by simp [List.getD, h]
  rw [e]
  exact List.getElem_mem h
theorem nat13_at {gs : List (Int × List Nat)} {i : Nat} {f : Nat × List Nat} (h : (nat13 gs)[i]? = some f) (hok : ∀ g ∈ gs, okG g) : i < gs.length ∧ (gs.getD i gr0).1 = (f.1 : Int) ∧ (gs.getD i gr0).2 = f.2 ∧ (nat13 gs).getD i fr0 = f := by
  have hl : i < gs.length := by
    have := (List.getElem?_eq_some_iff.1 h).1
    simpa [nat13] using this
  have e : gs.getD i gr0 = gs[i] := by simp [List.getD, hl]
  have e2 : f = (gs[i].1.toNat, gs[i].2) := by
    have : (nat13 gs)[i]? = some (gs[i].1.toNat, gs[i].2) := by simp [nat13, hl]
    rw [this] at h
    exact (Option.some.inj h).symm
  have hk := hok _ (List.getElem_mem hl)
  refine ⟨hl, ?_, ?_, by simp [List.getD, h]⟩
  · rw [e, e2]
    have := hk.1
    show gs[i].1 = ((gs[i].1.toNat : Nat) : Int)
    omega
  · rw [e, e2]
/-- What the region of FrameRows reads. -/
structure Rd12 (b2 b3 b12 b15 bx : Nat) (v2 v3 v12 v15 : Value) (k q : Value) (g0 o0 : Nat) (k' q' : Value) (g6 o6 : Nat) (q6 : Value) (w : World) : Prop where
  c2 : w.cell? ⟨b2, 0, none⟩ = some v2
  c3 : w.cell? ⟨b3, 0, none⟩ = some v3
  c12 : w.cell? ⟨b12, 0, none⟩ = some v12
  c15 : w.cell? ⟨b15, 0, none⟩ = some v15
  x0 : w.cell? ⟨bx, 0, none⟩ = some k
  x1 : w.cell? ⟨bx, 1, none⟩ = some q
  y0 : w.cell? ⟨g0, o0, none⟩ = some k'
  y1 : w.cell? ⟨g0, o0 + 1, none⟩ = some q'
  z1 : w.cell? ⟨g6, o6 + 1, none⟩ = some q6
theorem Rd12.later {b2 b3 b12 b15 bx : Nat} {v2 v3 v12 v15 k q : Value} {g0 o0 : Nat} {k' q' : Value} {g6 o6 : Nat} {q6 : Value} {w w' : World} (h : Rd12 b2 b3 b12 b15 bx v2 v3 v12 v15 k q g0 o0 k' q' g6 o6 q6 w) (hb : Below w.heap.size w w') : Rd12 b2 b3 b12 b15 bx v2 v3 v12 v15 k q g0 o0 k' q' g6 o6 q6 w' :=
  ⟨cell_later hb h.c2, cell_later hb h.c3, cell_later hb h.c12, cell_later hb h.c15, cell_later hb h.x0, cell_later hb h.x1, cell_later hb h.y0, cell_later hb h.y1, cell_later hb h.z1⟩
theorem sameB_yes (va vb : Value) (l : List Nat) (w : World) (hA : Bs w va l) (hB : Bs w vb l) :
    Calls Tryd.prog 11 #[va, vb] w fun e w' => e = .returned (.bool true) ∧ Below w.heap.size w w' :=
  (sameB va vb l l w hA hB).mono fun e w' h => ⟨by rw [h.1]; simp, h.2⟩
/-- The three boxes of the law: the list, the bytes ahead, the answer. -/
structure B3 (b2 b3 b4 : Nat) (v0 v1 : Value) (w : World) : Prop where
  c2 : w.cell? ⟨b2, 0, none⟩ = some v0
  c3 : w.cell? ⟨b3, 0, none⟩ = some v1
  c4 : w.cell? ⟨b4, 0, none⟩ = some (.bool false)
  f4 : w.frozen? ⟨b4, 0, none⟩ = false
theorem B3.later {b2 b3 b4 : Nat} {v0 v1 : Value} {w w' : World} (h : B3 b2 b3 b4 v0 v1 w) (k : Below w.heap.size w w') : B3 b2 b3 b4 v0 v1 w' :=
  ⟨cell_later k h.c2, cell_later k h.c3, cell_later k h.c4, frozen_later k h.c4 h.f4⟩
set_option maxRecDepth 100000 in
set_option maxHeartbeats 8000000 in
theorem frameRows_any (V : Fr1) (V2 : Fr2) (V3 : Fr3) (v0 v1 : Value) (gs : List (Int × List Nat)) (A : List Nat) (hgb : ∀ g ∈ gs, ∀ c ∈ g.2, c < 256) (hAb : ∀ c ∈ A, c < 256) (w : World) (h0 : FrI w v0 gs) (h1 : Bs w v1 A) (hT : FT w) :
    Calls Tryd.prog 4 #[v0, v1] w fun e w' => e = .returned (.bool true) ∧ Below w.heap.size w w' := by
  have HL : Hid (FrI w v0 gs ∧ Bs w v1 A) := ⟨h0, h1⟩
  have HY : Hid ((∀ g ∈ gs, ∀ c ∈ g.2, c < 256) ∧ ∀ c ∈ A, c < 256) := ⟨hgb, hAb⟩
  have HT : Hid (FT w) := hT
  obtain ⟨ad0, cap0, rfl, k1, k2⟩ := h0.len
  obtain ⟨ad1, cap1, rfl, k3, k4⟩ := h1.len
  unfold maxLen at k2 k4
  obtain ⟨n, hn⟩ : ∃ n, gs.length = n := ⟨_, rfl⟩
  obtain ⟨m, hm⟩ : ∃ m, A.length = m := ⟨_, rfl⟩
  have HN : Hid (gs.length = n ∧ A.length = m) := ⟨hn, hm⟩
  rw [hn, hm] at HL
  rw [hn] at k1 ⊢
  rw [hm] at k3 ⊢
  clear h0 h1 hn hm hgb hAb hT
  refine (callsIn_wide (n := 10)).1 ?_
  refine callsIn_of_wp_marks Tryd.func4 rfl trivial ?_ rfl
  refine wpIn_wide.2 ?_
  simp only [Tryd.ntmps4, List.size_toArray, List.length_cons, List.length_nil, Nat.reduceAdd, Nat.reduceSub, Array.replicate_succ, Array.replicate_zero, List.push_toArray, List.append_toArray, List.nil_append, List.cons_append]
  obtain ⟨wA, hA⟩ : ∃ wA, wA = ((w.alloc (.cells #[.slice ad0 n cap0] 33)).alloc (.cells #[.slice ad1 m cap1] 22)).alloc (.cells #[.bool false] 4) := ⟨_, rfl⟩
  have hBA : Below w.heap.size w wA := by rw [hA]; exact bchain (bel2 _ _ _) (bel1 _ _)
  have HA : Hid (B3 w.heap.size (w.heap.size + 1) (w.heap.size + 1 + 1) (.slice ad0 n cap0) (.slice ad1 m cap1) wA ∧ Below w.heap.size w wA ∧ wA.heap.size = w.heap.size + 1 + 1 + 1) := by
    refine ⟨?_, hBA, ?_⟩
    · rw [hA]; exact ⟨by simp [go_sem], by simp [go_sem], by simp [go_sem], by simp [go_sem]⟩
    · rw [hA]; simp
  clear hBA
  go_upto_region 1 with fail
  rw [← hA]
  clear hA
  obtain ⟨b2, hb2⟩ : ∃ b2, w.heap.size = b2 := ⟨_, rfl⟩
  have HB2 : Hid (w.heap.size = b2) := hb2
  rw [hb2] at HA ⊢
  clear hb2
  obtain ⟨b3, hb3⟩ : ∃ b3, b2 + 1 = b3 := ⟨_, rfl⟩
  have HB3 : Hid (b2 + 1 = b3) := hb3
  rw [hb3] at HA ⊢
  clear hb3
  obtain ⟨b4, hb4⟩ : ∃ b4, b3 + 1 = b4 := ⟨_, rfl⟩
  have HB4 : Hid (b3 + 1 = b4) := hb4
  rw [hb4] at HA ⊢
  clear hb4
  go_wp2_with fail
  refine (awake13 V wA (HT.out.later (by rw [HB2.out]; exact HA.out.2.1))).mono ?_
  rintro e w1 ⟨rfl, hb1⟩
  have HA1 : Hid (B3 b2 b3 b4 (.slice ad0 n cap0) (.slice ad1 m cap1) w1 ∧ Below wA.heap.size wA w1 ∧ Below b2 w w1) := ⟨HA.out.1.later hb1, hb1, HA.out.2.1.trans (hb1.mono (by have := HA.out.2.2; have := HB3.out; have := HB4.out; omega))⟩
  clear hb1
  have c2 := HA1.out.1.c2
  have c3 := HA1.out.1.c3
  have c4 := HA1.out.1.c4
  have f4 := HA1.out.1.f4
  by_cases q1 : 10 < n
  · have q1I : (10 : Int) < (n : Int) := by omega
    go_wp2
    have z := World.cell?_setCell_same' w1 ⟨b4, 0, none⟩ (.bool true) (by rw [c4]; rfl)
    refine ⟨.bool true, by simp [results, Tryd.results4, go_sem, z], rfl, ?_⟩
    rw [HB2.out]
    exact HA1.out.2.2.setCell (by have := HB3.out; have := HB4.out; dsimp only; omega) _
  have q1I : ¬ (10 : Int) < (n : Int) := by omega
  by_cases q2 : 100 < m
  · have q2I : (100 : Int) < (m : Int) := by omega
    go_wp2
    have z := World.cell?_setCell_same' w1 ⟨b4, 0, none⟩ (.bool true) (by rw [c4]; rfl)
    refine ⟨.bool true, by simp [results, Tryd.results4, go_sem, z], rfl, ?_⟩
    rw [HB2.out]
    exact HA1.out.2.2.setCell (by have := HB3.out; have := HB4.out; dsimp only; omega) _
  have q2I : ¬ (100 : Int) < (m : Int) := by omega
  have HSA : Hid (b2 < b3 ∧ b3 < b4 ∧ wA.heap.size = b4 + 1 ∧ w.heap.size = b2) := by
    have h1 := HB3.out
    have h2 := HB4.out
    have h3 := HA.out.2.2
    have h4 := HB2.out
    exact ⟨by omega, by omega, by omega, h4⟩
  have HWA : Hid (∀ X, Below wA.heap.size wA X → B3 b2 b3 b4 (.slice ad0 n cap0) (.slice ad1 m cap1) X ∧ Below b2 w X ∧ FrI X (.slice ad0 n cap0) gs ∧ Bs X (.slice ad1 m cap1) A ∧ FT X) := fun X hX => by
    have hB : Below b2 w X := HA.out.2.1.trans (hX.mono (by have := HSA.out; omega))
    have hB' : Below w.heap.size w X := by rw [HB2.out]; exact hB
    exact ⟨HA.out.1.later hX, hB, HL.out.1.later hB', HL.out.2.later hB', HT.out.later hB'⟩
  have HW1 : Hid (Below wA.heap.size wA w1) := HA1.out.2.1
  clear HA1 c4 f4 HA
  go_upto_region 7 with fail
  clear c2 c3
  go_loopw [5, 30] (fun s5 s30 wr => ∃ (j : Nat), j ≤ n ∧ s30 = .int .i64 ((j : Nat) : Int) ∧ Hid (Ob wA.heap.size wr s5 (fls (nat13 (gs.take j)))) ∧ Hid (∀ g ∈ gs.take j, okG g) ∧ Hid (Below wA.heap.size wA wr)) (fun _ s30 _ => n - (intOf s30).toNat)
  case atStart => exact ⟨0, by omega, rfl, ob_nil _ _, (fun g hg => by simp at hg), HW1⟩
  case round =>
    clear HW1 w1
    obtain ⟨j, hj, rfl, HO, HG, HB⟩ := hrel
    obtain ⟨hB3, hBw, hF, hA1, hT1⟩ := HWA.out wr HB.out
    by_cases hjn : j < n
    · have hjI : (j : Int) < (n : Int) := by omega
      have hj1 : IntKind.i64.wrap ((j : Int) + 1) = ((j + 1 : Nat) : Int) := by rw [IntKind.wrap_i64]; omega
      have hjg : j < gs.length := by rw [HN.out.1]; exact hjn
      obtain ⟨g0, o0, vp, e0, x0, x1, hp⟩ := hF.cel j hjg
      subst e0
      have HGJ : Hid (nat13 (gs.take (j + 1)) = nat13 (gs.take j) ++ [((gs.getD j gr0).1.toNat, (gs.getD j gr0).2)]) := nat13_take gs j hjg
      have HGK : Hid (okG (gs.getD j gr0) → ∀ g ∈ gs.take (j + 1), okG g) := fun hk g hg => by
        rw [List.take_add_one] at hg
        rcases List.mem_append.1 hg with q | q
        · exact HG.out g q
        · have e : gs.getD j gr0 = gs[j] := by simp [List.getD, hjg]
          simp [hjg] at q
          rw [q, ← e]
          exact hk
      have HYJ : Hid (∀ c ∈ (gs.getD j gr0).2, c < 256) := HY.out.1 _ (getG_mem hjg)
      generalize gs.getD j gr0 = g at *
      obtain ⟨kk, pp⟩ := g
      dsimp only at x0 x1 hp HGJ HGK HYJ
      obtain ⟨ap, cp, rfl, -, -⟩ := hp.len
      obtain ⟨pl, hpl⟩ : ∃ pl, pp.length = pl := ⟨_, rfl⟩
      have HPL : Hid (pp.length = pl) := hpl
      have HBP : Hid (Bs wr (.slice ap pl cp) pp) := by rw [hpl] at hp; exact hp
      rw [hpl] at x1
      clear hpl hp hF
      obtain ⟨wf, hwf⟩ : ∃ wf, wf = wr.alloc (.cells #[.int .i64 kk, .slice ap pl cp] 24) := ⟨_, rfl⟩
      have hBf : Below wr.heap.size wr wf := by rw [hwf]; exact bel1 _ _
      have HF : Hid (Bx2 wr.heap.size (.int .i64 kk) (.slice ap pl cp) wf ∧ Below wA.heap.size wA wf ∧ Bs wf (.slice ap pl cp) pp ∧ Ob wA.heap.size wf u5 (fls (nat13 (gs.take j))) ∧ wA.heap.size ≤ wr.heap.size) := ⟨by rw [hwf]; exact Bx2.new _ _ _ _, bchain HB.out hBf, HBP.out.later hBf, HO.out.later hBf, HB.out.size⟩
      have z0 := HF.out.1.c0
      have z1 := HF.out.1.c1
      clear hBf HBP HO HB hB3 hBw hA1 hT1
      go_upto_region 9 with fail
      rw [← hwf]
      clear hwf x0 x1
      generalize wr.heap.size = bf at *
      by_cases hk : kk < 1 ∨ 255 < kk
      · go_wp2_with fail
        refine (V.sealKind wf kk _ pp hk HF.out.2.2.1 (HWA.out wf HF.out.2.1).2.2.2.2).mono ?_
        rintro e w3 ⟨v3, rfl, hb3, hB3⟩
        obtain ⟨a3, p3, rfl, -, -⟩ := hb3.len
        have hB3b := bchain HF.out.2.1 hB3
        have HW3 := HWA.out w3 hB3b
        have y1 := cell_later hB3 z1
        have c4 := HW3.1.c4
        have f4 := HW3.1.f4
        have HBw : Hid (Below b2 w w3) := HW3.2.1
        clear hb3 hB3 hB3b HW3 z0 z1
        go_wp2
        have z := World.cell?_setCell_same' w3 ⟨b4, 0, none⟩ (.bool true) (by rw [c4]; rfl)
        refine ⟨.bool true, by simp [results, Tryd.results4, go_sem, z], rfl, ?_⟩
        rw [HB2.out]
        exact HBw.out.setCell (by have := HB3.out; have := HB4.out; dsimp only; omega) _
      obtain ⟨kn, rfl⟩ : ∃ kn : Nat, kk = (kn : Int) := ⟨kk.toNat, by omega⟩
      have hk1 : 1 ≤ kn := by omega
      have hk2 : kn ≤ 255 := by omega
      clear hk
      by_cases hbig : 65536 < pl
      · go_wp2_with fail
        refine (V.sealSize wf kn _ pp hk1 hk2 HF.out.2.2.1 (by rw [HPL.out]; exact hbig) (HWA.out wf HF.out.2.1).2.2.2.2).mono ?_
        rintro e w3 ⟨v3, rfl, hb3, hB3⟩
        obtain ⟨a3, p3, rfl, -, -⟩ := hb3.len
        have hB3b := bchain HF.out.2.1 hB3
        have HW3 := HWA.out w3 hB3b
        have y1 := cell_later hB3 z1
        have c4 := HW3.1.c4
        have f4 := HW3.1.f4
        have HBw : Hid (Below b2 w w3) := HW3.2.1
        clear hb3 hB3 hB3b HW3 z0 z1
        go_wp2
        have z := World.cell?_setCell_same' w3 ⟨b4, 0, none⟩ (.bool true) (by rw [c4]; rfl)
        refine ⟨.bool true, by simp [results, Tryd.results4, go_sem, z], rfl, ?_⟩
        rw [HB2.out]
        exact HBw.out.setCell (by have := HB3.out; have := HB4.out; dsimp only; omega) _
      go_wp2_with fail
      refine (V.sealOk wf kn _ pp hk1 hk2 HF.out.2.2.1 HYJ.out (by rw [HPL.out]; omega) (HWA.out wf HF.out.2.1).2.2.2.2).mono ?_
      rintro e w3 ⟨v3, rfl, hO3, hB3⟩
      have HO3 : Hid (Bs w3 v3 (fsl kn pp) ∧ Ob wA.heap.size w3 u5 (fls (nat13 (gs.take j))) ∧ Below wA.heap.size wA w3) := ⟨hO3.bs.1, HF.out.2.2.2.1.later hB3, bchain HF.out.2.1 hB3⟩
      obtain ⟨a3, p3, rfl⟩ := hO3.sl
      have HFL : Hid ((fsl kn pp).length = pl + 12) := by show _ = _; rw [seal_len, HPL.out]
      have y1 := cell_later hB3 z1
      clear hO3 hB3 z0 z1
      by_cases h200 : 200 < pl
      · have h200I : (200 : Int) < (pl : Int) := by omega
        have HW3 := HWA.out w3 HO3.out.2.2
        have c4 := HW3.1.c4
        have f4 := HW3.1.f4
        have HBw : Hid (Below b2 w w3) := HW3.2.1
        clear HW3
        generalize fsl kn pp = S at *
        go_wp2
        have z := World.cell?_setCell_same' w3 ⟨b4, 0, none⟩ (.bool true) (by rw [c4]; rfl)
        refine ⟨.bool true, by simp [results, Tryd.results4, go_sem, z], rfl, ?_⟩
        rw [HB2.out]
        exact HBw.out.setCell (by have := HB3.out; have := HB4.out; dsimp only; omega) _
      have h200I : ¬ (200 : Int) < (pl : Int) := by omega
      have HK2 : Hid (∀ g ∈ gs.take (j + 1), okG g) := HGK.out ⟨by show (1 : Int) ≤ (kn : Int); omega, by show (kn : Int) ≤ 255; omega, HYJ.out, by show pp.length ≤ 200; rw [HPL.out]; omega⟩
      have HE2 : Hid (fls (nat13 (gs.take (j + 1))) = fls (nat13 (gs.take j)) ++ fsl kn pp) := by
        show _ = _
        rw [HGJ.out, fls_snoc]
        rfl
      have HLn : Hid ((fls (nat13 (gs.take j))).length ≤ 3000) := by
        have h1 := fls_len (nat13 (gs.take j)) (nat13_ok HG.out)
        have h2 : (nat13 (gs.take j)).length ≤ j := by simp [nat13]; omega
        show _ ≤ _
        omega
      generalize fsl kn pp = S at *
      clear HGJ HGK HG HF
      go_wp2_with (at_builtin; refine apB rfl _ _ rfl wA.heap.size _ _ rfl HO3.out.2.1 _ S rfl HO3.out.1 (by have := HLn.out; have := HFL.out; omega) HO3.out.2.2.size ?_; intro v4 w4 hO4 hg4)
      have HO4 : Hid (Ob wA.heap.size w4 v4 (fls (nat13 (gs.take (j + 1))))) := by rw [HE2.out]; exact hO4
      have HB4b : Hid (Below wA.heap.size wA w4) := hg4.1 _ HO3.out.2.2
      clear hO4 hg4 HO3
      go_wp2
      go_roundw
      case rel => exact ⟨j + 1, by omega, rfl, HO4, HK2, HB4b⟩
      case measure => simp only [intOf]; omega
    · have hjI : ¬ (j : Int) < (n : Int) := by omega
      obtain rfl : n = j := by omega
      have HO2 : Hid (Ob wA.heap.size wr u5 (fls (nat13 gs))) := by have h := HO.out; rw [List.take_of_length_le (by rw [HN.out.1]; omega)] at h; exact h
      have HG2 : Hid (∀ g ∈ gs, okG g) := by have h := HG.out; rw [List.take_of_length_le (by rw [HN.out.1]; omega)] at h; exact h
      have c3 := hB3.c3
      clear HO HG hB3 hBw hF hA1 hT1 hj hjn
      obtain ⟨wL, rfl⟩ : ∃ x, x = wr := ⟨_, rfl⟩
      obtain ⟨a5, p5, rfl⟩ := HO2.out.sl
      obtain ⟨fl, hfl⟩ : ∃ fl, (fls (nat13 gs)).length = fl := ⟨_, rfl⟩
      have HFL : Hid ((fls (nat13 gs)).length = fl ∧ fl ≤ 3000) := by
        refine ⟨hfl, ?_⟩
        have h1 := fls_len (nat13 gs) (nat13_ok HG2.out)
        have h2 : (nat13 gs).length = gs.length := by simp [nat13]
        have h3 := HN.out.1
        omega
      rw [hfl] at HO2 ⊢
      clear hfl
      go_upto_region 15 with fail
      clear c3
      go_loopw [64] (fun s64 wr => ∃ (i : Nat), i ≤ m ∧ s64 = .int .i64 ((i : Nat) : Int) ∧ wr = wL ∧ Hid (∀ c ∈ A.take i, c ≠ 82)) (fun s64 _ => m - (intOf s64).toNat)
      case atStart => exact ⟨0, by omega, rfl, rfl, (fun c hc => by simp at hc)⟩
      case round =>
        obtain ⟨i, hi, rfl, rfl, HN8⟩ := hrel
        obtain ⟨hB3, hBw, hF, hA1, hT1⟩ := HWA.out wr HB.out
        by_cases him : i < m
        · have hiI : (i : Int) < (m : Int) := by omega
          have hi1 : IntKind.i64.wrap ((i : Int) + 1) = ((i + 1 : Nat) : Int) := by rw [IntKind.wrap_i64]; omega
          have hiA : i < A.length := by rw [HN.out.2]; exact him
          obtain ⟨g1, o1, e1, x0⟩ := hA1.cel i hiA
          subst e1
          have HT8 : Hid (A.getD i 0 ≠ 82 → ∀ c ∈ A.take (i + 1), c ≠ 82) := fun hk c hc => by
            rw [List.take_add_one] at hc
            rcases List.mem_append.1 hc with q | q
            · exact HN8.out c q
            · have e : A.getD i 0 = A[i] := by simp [List.getD, hiA]
              simp [hiA] at q
              rw [q, ← e]
              exact hk
          generalize A.getD i 0 = c at *
          have c4 := hB3.c4
          have f4 := hB3.f4
          have HBw : Hid (Below b2 w wr) := hBw
          clear hB3 hBw hF hA1 hT1 HN8
          by_cases hc : c = 82
          · subst hc
            go_wp2
            have z := World.cell?_setCell_same' wr ⟨b4, 0, none⟩ (.bool true) (by rw [c4]; rfl)
            refine ⟨.bool true, by simp [results, Tryd.results4, go_sem, z], rfl, ?_⟩
            rw [HB2.out]
            exact HBw.out.setCell (by have := HB3.out; have := HB4.out; dsimp only; omega) _
          · have hcI : ¬ (c : Int) = 82 := by omega
            have HN9 : Hid (∀ c ∈ A.take (i + 1), c ≠ 82) := HT8.out hc
            go_wp2
            go_roundw
            case rel => exact ⟨i + 1, by omega, rfl, by first | rfl | trivial, HN9⟩
            case measure => simp only [intOf]; omega
        · have hiI : ¬ (i : Int) < (m : Int) := by omega
          obtain rfl : m = i := by omega
          have H82 : Hid (∀ c ∈ A, c ≠ 82) := by have h := HN8.out; rw [List.take_of_length_le (by rw [HN.out.2]; omega)] at h; exact h
          have HSp : Hid (spl (fls (nat13 gs)) = (nat13 gs, fl, 0)) := by show _ = _; rw [spl_fls _ (nat13_ok HG2.out), HFL.out.1]
          clear hB3 hBw hF hA1 HN8 hi him
          go_wp2_with fail
          refine (V2.split wr _ (fls (nat13 gs)) HO2.out.bs.1 (fls_byte _ (nat13_ok HG2.out)) (by have := HFL.out; omega) hT1).mono ?_
          rintro e w5 ⟨v5, rfl, hF5, hB5⟩
          rw [HSp.out] at hF5 ⊢
          dsimp only at hF5 ⊢
          have HNn : Hid ((nat13 gs).length = n) := by show _ = _; rw [← HN.out.1]; simp [nat13]
          obtain ⟨a6, p6, rfl, -, -⟩ := hF5.len
          rw [HNn.out] at hF5 ⊢
          have HF5 : Hid (Frs w5 (.slice a6 n p6) (nat13 gs) ∧ Below wA.heap.size wA w5 ∧ Bs w5 (.slice a5 fl p5) (fls (nat13 gs))) := ⟨hF5, bchain HB.out hB5, HO2.out.bs.1.later hB5⟩
          have hc2 := (HWA.out w5 HF5.out.2.1).1
          obtain ⟨w6, hw6⟩ : ∃ w6, w6 = w5.alloc (.cells #[.slice a6 n p6] 33) := ⟨_, rfl⟩
          have hB56 : Below w5.heap.size w5 w6 := by rw [hw6]; exact bel1 _ _
          have c12 : w6.cell? ⟨w5.heap.size, 0, none⟩ = some (.slice a6 n p6) := by rw [hw6]; simp [go_sem]
          have hs6 : w6.heap.size = w5.heap.size + 1 := by rw [hw6]; simp
          have c2 := cell_later hB56 hc2.c2
          have HW6 : Hid (Below w5.heap.size w5 w6 ∧ w6.heap.size = w5.heap.size + 1 ∧ w6.cell? ⟨w5.heap.size, 0, none⟩ = some (.slice a6 n p6)) := ⟨hB56, hs6, c12⟩
          clear hF5 hB5 hB56 hs6 hT1 HO2 HSp hc2
          go_upto_region 21 with fail
          rw [← hw6]
          clear hw6
          obtain ⟨w7, hw7⟩ : ∃ w7, w7 = w6.alloc (.cells #[.int .i64 0] 3) := ⟨_, rfl⟩
          have hB67 : Below w6.heap.size w6 w7 := by rw [hw7]; exact bel1 _ _
          have HW7 : Hid (Below w5.heap.size w5 w7 ∧ w7.heap.size = w5.heap.size + 2 ∧ w7.cell? ⟨w5.heap.size, 0, none⟩ = some (.slice a6 n p6) ∧ w7.cell? ⟨w5.heap.size + 1, 0, none⟩ = some (.int .i64 0) ∧ w7.frozen? ⟨w5.heap.size + 1, 0, none⟩ = false) := by
            refine ⟨bchain HW6.out.1 hB67, ?_, cell_later hB67 HW6.out.2.2, ?_, ?_⟩
            · rw [hw7, World.size_alloc, HW6.out.2.1]
            · rw [hw7, ← HW6.out.2.1]; simp [go_sem]
            · rw [hw7, ← HW6.out.2.1]; simp [go_sem]
          have c3 : w7.cell? ⟨b3, 0, none⟩ = some (.slice ad1 m cap1) := cell_later HW7.out.1 (HWA.out w5 HF5.out.2.1).1.c3
          clear hB67
          go_upto_region 24 with fail
          rw [← hw7]
          clear hw7 c2 c12
          rw [HW6.out.2.1]
          obtain ⟨b12, hb12⟩ : ∃ b12, w5.heap.size = b12 := ⟨_, rfl⟩
          have HB12 : Hid (w5.heap.size = b12) := hb12
          rw [hb12] at HW7 ⊢
          clear hb12 HW6
          obtain ⟨b15, hb15⟩ : ∃ b15, b12 + 1 = b15 := ⟨_, rfl⟩
          have HB15 : Hid (b12 + 1 = b15) := hb15
          rw [hb15] at HW7 ⊢
          clear hb15 w6
          have hB57 : Below w5.heap.size w5 w7 := by rw [HB12.out]; exact HW7.out.1
          have hBA7 := bchain HF5.out.2.1 hB57
          go_wp2_with fail
          refine (joinB _ _ A (fls (nat13 gs)) (by have := HN.out; have := HFL.out; omega) w7 (HWA.out w7 hBA7).2.2.2.1 (HF5.out.2.2.later hB57)).mono ?_
          rintro e w8 ⟨v8, rfl, hJ8, hB8, hO8⟩
          obtain ⟨a8, p8, rfl, -, -⟩ := hJ8.len
          obtain ⟨jl, hjl⟩ : ∃ jl, (A ++ fls (nat13 gs)).length = jl := ⟨_, rfl⟩
          have HJL : Hid ((A ++ fls (nat13 gs)).length = jl ∧ jl ≤ 4000) := ⟨hjl, by rw [← hjl, List.length_append]; have := HN.out; have := HFL.out; omega⟩
          rw [hjl] at hJ8 hO8 ⊢
          have HO8 : Hid (Ow w7.heap.size (.slice a8 jl p8)) := hO8
          have HJ8 : Hid (Bs w8 (.slice a8 jl p8) (A ++ fls (nat13 gs)) ∧ Below w7.heap.size w7 w8 ∧ Below wA.heap.size wA w8) := ⟨hJ8, hB8, bchain hBA7 hB8⟩
          clear hJ8 hB8 hjl hB57 hBA7 c3 hO8
          have HHn : Hid (hnt (A ++ fls (nat13 gs)) 0 = pls m (nat13 gs)) := by show _ = _; rw [hnt_rows A _ H82.out (nat13_ok HG2.out), HN.out.2]
          have HJB : Hid (∀ c ∈ A ++ fls (nat13 gs), c < 256) := fun c hc => by
            rcases List.mem_append.1 hc with q | q
            · exact HY.out.2 c q
            · exact fls_byte _ (nat13_ok HG2.out) c q
          go_wp2_with fail
          refine (V3.hunt w8 _ (A ++ fls (nat13 gs)) HJ8.out.1 HJB.out (by have := HJL.out; omega) (HWA.out w8 HJ8.out.2.2).2.2.2.2).mono ?_
          rintro e w9 ⟨gf, lb, rfl, hB9, heg, hTl⟩
          rw [HHn.out] at hTl
          have HX9 : Hid ((∀ args W, (callFunc gf args).run Tryd.prog W = .ok (.enter gf args) W) ∧ ∀ (FB : Nat → Prop) (W : World), (∀ k, FB k → k < w8.heap.size) → Nf FB (.slice a8 jl p8) → NT FB → Kp FB w9 W → Tells Fence.wide 9 Tryd.prog gf lb (pls m (nat13 gs)) EH FB W) := ⟨heg, hTl⟩
          have HB89 : Hid (Below w8.heap.size w8 w9) := hB9
          clear hB9 heg hTl HHn HJB
          go_wp2_with fail
          have hB79 := bchain HJ8.out.2.1 HB89.out
          have HZ : Hid (Below w5.heap.size w5 w9 ∧ Below wA.heap.size wA w9 ∧ w9.cell? ⟨b12, 0, none⟩ = some (.slice a6 n p6) ∧ w9.cell? ⟨b15, 0, none⟩ = some (.int .i64 0) ∧ w9.frozen? ⟨b15, 0, none⟩ = false) :=
            ⟨bchain (by rw [HB12.out]; exact HW7.out.1) hB79, bchain HJ8.out.2.2 HB89.out, cell_later hB79 HW7.out.2.2.1, cell_later hB79 HW7.out.2.2.2.1, frozen_later hB79 HW7.out.2.2.2.1 HW7.out.2.2.2.2⟩
          have HSZ : Hid (b2 < b3 ∧ b3 < b4 ∧ b4 < b12 ∧ b12 < b15 ∧ b15 < w8.heap.size ∧ w8.heap.size ≤ w9.heap.size ∧ w5.heap.size = b12 ∧ wA.heap.size = b4 + 1 ∧ w.heap.size = b2 ∧ w7.heap.size = b15 + 1 ∧ 1 < b2 ∧ 0 < b2) := by
            have h1 := HSA.out
            have h2 := HB12.out
            have h3 := HB15.out
            have h4 := HW7.out.2.1
            have h5 := HJ8.out.2.1.size
            have h6 := HB89.out.size
            have h7 := HF5.out.2.1.size
            have h8 := HT.out.low
            refine ⟨by omega, by omega, by omega, by omega, by omega, by omega, by omega, by omega, by omega, by omega, ?_⟩
            rw [h1.2.2.2] at h8
            exact h8
          clear hB79
          refine (wpIn_wide (n := 10)).1 ?_
          refine range_told (FB := fun k => k = b15) rfl (by omega) (gf := gf) (lb := lb) rfl trivial HX9.out.1 (HX9.out.2 _ w9 ?f1 ?f2 ?f3 (Kp.refl _ _)) ?f4 ?f5 (fun k => k = b15) ?f6
            (fun i X => Hb w9 b15 i X) (fun _ _ _ => False)
            (fun i a' X => ∃ (y : Nat × Nat × List Nat) (ap : Option Addr) (np cp bx : Nat), (pls m (nat13 gs))[i]? = some y ∧ a' = { tmps := #[Value.slice ad0 n cap0, Value.slice ad1 m cap1, Value.pointer (some ⟨b2, 0, none⟩), Value.pointer (some ⟨b3, 0, none⟩), Value.pointer (some ⟨b4, 0, none⟩), Value.slice a5 fl p5, undef, u7, u8, u9, undef, u11, Value.pointer (some ⟨b12, 0, none⟩), Value.int IntKind.i64 (fl : Int), Value.int IntKind.i64 0, Value.pointer (some ⟨b15, 0, none⟩), Value.int IntKind.i64 (y.1 : Int), Value.pointer (some ⟨bx, 0, none⟩), Value.bool true, Value.bool false, Value.slice ad0 n cap0, Value.int IntKind.i64 (n : Int), Value.bool (decide ((10 : Int) < (n : Int))), Value.bool (decide ((10 : Int) < (n : Int))), Value.slice ad1 m cap1, Value.int IntKind.i64 (m : Int), Value.bool (decide ((100 : Int) < (m : Int))), Value.bool (decide ((10 : Int) < (n : Int)) || decide ((100 : Int) < (m : Int))), Value.slice ad0 n cap0, Value.int IntKind.i64 (n : Int), Value.int IntKind.i64 (n : Int), Value.bool false, u32, u33, u34, u35, u36, u37, u38, u39, u40, u41, u42, u43, u44, u45, u46, u47, u48, u49, u50, u51, u52, u53, u54, u55, u56, u57, u58, u59, u60, u61, Value.slice ad1 m cap1, Value.int IntKind.i64 (m : Int), Value.int IntKind.i64 (m : Int), Value.bool false, u66, u67, u68, u69, u70, Value.tuple #[Value.slice a6 n p6, Value.int IntKind.i64 (fl : Int), Value.int IntKind.i64 0], Value.slice a5 fl p5, Value.tuple #[Value.slice a6 n p6, Value.int IntKind.i64 (fl : Int), Value.int IntKind.i64 0], Value.slice a6 n p6, Value.int IntKind.i64 (fl : Int), Value.int IntKind.i64 0, Value.int IntKind.i64 0, Value.bool false, Value.bool false, Value.int IntKind.i64 (fl : Int), Value.slice a5 fl p5, Value.int IntKind.i64 (fl : Int), Value.bool false, Value.bool false, Value.bool false, Value.slice a6 n p6, Value.int IntKind.i64 (n : Int), Value.slice ad0 n cap0, Value.int IntKind.i64 (n : Int), Value.bool false, Value.bool false, Value.slice ad1 m cap1, Value.slice a5 fl p5, Value.slice a8 jl p8, Value.func (Fn.func gf) #[] lb, Value.int IntKind.i64 (y.1 : Int), Value.agg #[Value.int IntKind.i64 (y.2.1 : Int), Value.slice ap np cp], undef, undef, undef, undef, undef, undef, undef, undef, undef, undef, undef, undef, undef, undef, undef, undef, undef, undef, undef, undef, undef, undef, undef, undef, undef, undef, undef, undef, undef, undef, undef, undef, undef, undef, undef, undef, undef, undef, undef, undef, undef, undef, undef, undef, undef, undef, undef, undef, undef, undef, undef], defers := [] } ∧ Hb w9 b15 i X ∧ Hx bx y.2.1 (.slice ap np cp) y.2.2 X ∧ w9.heap.size + 2 ≤ bx ∧ Nb (.slice ap np cp) (w9.heap.size + 1)) ?f7 ?f8 ?f9 ?f10 ?assign ?body ?done ?left
          case f1 => intro k hk; have := HSZ.out; omega
          case f2 => intro a n' cap' e hp q; have h1 := HO8.out a n' cap' e hp; have := HSZ.out; omega
          case f3 => exact ⟨fun q => by dsimp only at q; have := HSZ.out; omega, fun q => by dsimp only at q; have := HSZ.out; omega⟩
          case f4 => rintro y args X ⟨ap, np, cp, rfl, -⟩; rfl
          case f5 => intro k hk; have := HSZ.out; omega
          case f6 => intro k hk; have := HSZ.out; omega
          case f7 => intro i X X' G hX hG k; exact hX.puts (fun j hj => by have := hG j hj; have := HSZ.out; omega) k
          case f8 => intro c i X X' G h; exact h.elim
          case f9 =>
            rintro i a' X X' ⟨y, ap, np, cp, bx, hy, ha, h1, h2, h3, h4⟩ k
            exact ⟨y, ap, np, cp, bx, hy, ha, h1.put (by have := HSZ.out; omega) k, h2.put (by omega) h4 k, h3, h4⟩
          case f10 => exact ⟨Below.refl _ _, HZ.out.2.2.2.1, HZ.out.2.2.2.2⟩
          case left => intro c i X hi h; exact h.elim
          case assign =>
            rintro i y args X hy hX ⟨ap, np, cp, rfl, hp⟩ hsz hno
            have HX : Hid (Hb w9 b15 i X ∧ Bs X (.slice ap np cp) y.2.2 ∧ Nb (.slice ap np cp) (w9.heap.size + 1)) := ⟨hX, hp, nb_none hp hno⟩
            clear hX hp hno
            gi_wp2
            refine ⟨⟨y, ap, np, cp, X.heap.size, hy, rfl, ?_, ?_, hsz, HX.out.2.2⟩, (Kp.refl _ _).alloc _⟩
            · exact ⟨HX.out.1.k.alloc (by have := HSZ.out; omega) _, cell_later (bel1 _ _) HX.out.1.c7, frozen_later (bel1 _ _) HX.out.1.c7 HX.out.1.f7⟩
            · exact ⟨by simp [go_sem], by simp [go_sem], HX.out.2.1.later (bel1 _ _)⟩
          case done =>
            intro X hX hD
            rw [pls_len, HNn.out] at hX
            have c15 := hX.c7
            have hBA : Below wA.heap.size wA X := HZ.out.2.1.trans (hX.k.mono (by have := HSZ.out; omega))
            obtain ⟨hB3, hBw, -, -, -⟩ := HWA.out X hBA
            have c2 := hB3.c2
            have c4 := hB3.c4
            have f4 := hB3.f4
            have HD : Hid (X.heap[w9.heap.size]? = some (.deferred (some []))) := hD
            have HBw : Hid (Below b2 w X) := hBw
            clear hX hD hBA hB3 hBw
            go_wp2
            refine ⟨by simp, Or.inl ⟨w9.heap.size, _, rfl, run_takeDeferred (ds := []) ((Below.heap_setCell _ _ _ _ (by have := HSZ.out; dsimp only; omega)).trans HD.out), ?_⟩⟩
            have z := World.cell?_setCell_same' X ⟨b4, 0, none⟩ (.bool true) (by rw [c4]; rfl)
            have z2 : ((X.setCell ⟨b4, 0, none⟩ (.bool true)).putObj w9.heap.size (.deferred none)).cell? ⟨b4, 0, none⟩ = some (.bool true) := (World.cell?_of_block (World.putObj_heap_other (by have := HSZ.out; dsimp only; omega))).trans z
            refine ⟨.bool true, by simp [results, Tryd.results4, go_sem, z2], rfl, ?_⟩
            rw [HB2.out]
            exact (kp_put _ w9.heap.size _).next (HBw.out.setCell (by have := HSZ.out; dsimp only; omega) _) (fun j hj => by have := HSZ.out; omega) (by rw [World.size_setCell]; have := HBw.out.size; have := HSZ.out; omega)
          case body =>
            rintro i y0 a' X hy0 ⟨y, ap, np, cp, bx, hy, rfl, hH, hX, hbx, hnb⟩ hsz
            clear hy0 y0
            obtain ⟨hmp, hyf⟩ := pls_at _ _ _ _ hy
            obtain ⟨hig, gk, gp, gf6⟩ := nat13_at hyf HG2.out
            have hin : i < n := by rw [← HN.out.1]; exact hig
            have hS := HSZ.out
            have hBA : Below wA.heap.size wA X := HZ.out.2.1.trans (hH.k.mono (by omega))
            have hB5 : Below w5.heap.size w5 X := HZ.out.1.trans (hH.k.mono (by omega))
            obtain ⟨hB3, hBw, hF, -, -⟩ := HWA.out X hBA
            obtain ⟨g0, o0, vq, e0, y0, y1, hq⟩ := hF.cel i hig
            obtain ⟨g6, o6, v6, e6, -, z1, hq6⟩ := (HF5.out.1.later hB5).cel i (by rw [HNn.out]; exact hin)
            rw [gk] at y0
            rw [gp] at hq
            rw [gf6] at hq6
            obtain ⟨pk, kk, pp⟩ := y
            dsimp only at y0 hq hq6 hX hmp ⊢
            have c15 := hH.c7
            have f15 := hH.f7
            have c12 : X.cell? ⟨b12, 0, none⟩ = some (.slice a6 n p6) := (hH.k.cell (p := ⟨b12, 0, none⟩) (by dsimp only; omega)).trans HZ.out.2.2.1
            subst e0 e6
            obtain ⟨aq, cq, rfl, -, -⟩ := hq.len
            obtain ⟨a7, c7, rfl, -, -⟩ := hq6.len
            have hnp : np = pp.length := by
              obtain ⟨_, _, e, _, _⟩ := hX.pl.len
              injection e
            subst hnp
            have HRd : Hid (Rd12 b2 b3 b12 b15 bx (.slice (some ⟨g0, o0, none⟩) n cap0) (.slice ad1 m cap1) (.slice (some ⟨g6, o6, none⟩) n p6) (.int .i64 (i : Int)) (.int .i64 (kk : Int)) (.slice ap pp.length cp) g0 (o0 + i * 2) (.int .i64 (kk : Int)) (.slice aq pp.length cq) g6 (o6 + i * 2) (.slice a7 pp.length c7) X) := ⟨hB3.c2, hB3.c3, c12, c15, hX.x0, hX.x1, y0, y1, z1⟩
            have HP : Hid (Bs X (.slice ap pp.length cp) pp ∧ Bs X (.slice aq pp.length cq) pp ∧ Bs X (.slice a7 pp.length c7) pp) := ⟨hX.pl, hq, hq6⟩
            have hgeN : decide (n ≤ i) = false := by simp; omega
            have hltN : decide (pk < m) = false := by simp; omega
            have hi0 : (0 : Int) ≤ (i : Int) := by omega
            have hiK : (i : Int) < (n : Int) := by omega
            have HC15 : Hid (X.cell? ⟨b15, 0, none⟩ = some (.int .i64 (i : Int)) ∧ X.frozen? ⟨b15, 0, none⟩ = false) := ⟨c15, f15⟩
            have HHk : Hid (Below b15 w9 X) := hH.k
            clear hS hBA hB5 hB3 hBw hF hq hq6 hX hH c15 f15 c12 y0 y1 z1 gk gp gf6 hyf
            gi_wp2
            refine region_round_held (Rd12 b2 b3 b12 b15 bx (.slice (some ⟨g0, o0, none⟩) n cap0) (.slice ad1 m cap1) (.slice (some ⟨g6, o6, none⟩) n p6) (.int .i64 (i : Int)) (.int .i64 (kk : Int)) (.slice ap pp.length cp) g0 (o0 + i * 2) (.int .i64 (kk : Int)) (.slice aq pp.length cq) g6 (o6 + i * 2) (.slice a7 pp.length c7)) (by kernel_rfl) (by kernel_rfl) (by rintro ⟨_, _, h⟩; exact h) (HRd.out.later (Below.refl _ _).drew) (fun HS => ?_)
            have HPd : Hid (Bs X.drew (.slice ap pp.length cp) pp ∧ Bs X.drew (.slice aq pp.length cq) pp ∧ Bs X.drew (.slice a7 pp.length c7) pp ∧ Below X.heap.size X X.drew) := ⟨HP.out.1.later (Below.refl _ _).drew, HP.out.2.1.later (Below.refl _ _).drew, HP.out.2.2.later (Below.refl _ _).drew, (Below.refl _ _).drew⟩
            clear HRd HP
            generalize X.drew = q0 at *
            refine wpAnyH_take (i := 0) (v := ?v21) rfl (by kernel_rfl) (by kernel_rfl) (by kernel_rfl) (fun _ _ _ h => h) (Or.inl ⟨by kernel_rfl, ?h21⟩) HS ?r21
            case h21 => (rintro w ⟨n0, n1, n2, n3, n4, n5, n6, n7, n8⟩; go_simp) <;> with_reducible rfl
            try simp only [Act.put, List.getElem_toArray, List.getElem_cons_succ, List.getElem_cons_zero, List.setIfInBounds_toArray, List.set_cons_zero, List.set_cons_succ]
            refine wpAnyH_take (i := 1) (v := ?v22) rfl (by kernel_rfl) (by kernel_rfl) (by kernel_rfl) (fun _ _ _ h => h) (Or.inl ⟨by kernel_rfl, ?h22⟩) HS ?r22
            case h22 => (rintro w ⟨n0, n1, n2, n3, n4, n5, n6, n7, n8⟩; go_simp) <;> with_reducible rfl
            try simp only [Act.put, List.getElem_toArray, List.getElem_cons_succ, List.getElem_cons_zero, List.setIfInBounds_toArray, List.set_cons_zero, List.set_cons_succ]
            refine wpAnyH_take (i := 2) (v := ?v23) rfl (by kernel_rfl) (by kernel_rfl) (by kernel_rfl) (fun _ _ _ h => h) (Or.inl ⟨by kernel_rfl, ?h23⟩) HS ?r23
            case h23 => (rintro w ⟨n0, n1, n2, n3, n4, n5, n6, n7, n8⟩; go_simp) <;> with_reducible rfl
            try simp only [Act.put, List.getElem_toArray, List.getElem_cons_succ, List.getElem_cons_zero, List.setIfInBounds_toArray, List.set_cons_zero, List.set_cons_succ]
            refine wpAnyH_take (i := 3) (v := ?v24) rfl (by kernel_rfl) (by kernel_rfl) (by kernel_rfl) (fun _ _ _ h => h) (Or.inl ⟨by kernel_rfl, ?h24⟩) HS ?r24
            case h24 => (rintro w ⟨n0, n1, n2, n3, n4, n5, n6, n7, n8⟩; go_simp) <;> with_reducible rfl
            try simp only [Act.put, List.getElem_toArray, List.getElem_cons_succ, List.getElem_cons_zero, List.setIfInBounds_toArray, List.set_cons_zero, List.set_cons_succ]
            refine wpAnyH_take (i := 4) (v := ?v25) rfl (by kernel_rfl) (by kernel_rfl) (by kernel_rfl) (fun _ _ _ h => h) (Or.inl ⟨by kernel_rfl, ?h25⟩) HS ?r25
            case h25 => (rintro w ⟨n0, n1, n2, n3, n4, n5, n6, n7, n8⟩; go_simp) <;> with_reducible rfl
            try simp only [Act.put, List.getElem_toArray, List.getElem_cons_succ, List.getElem_cons_zero, List.setIfInBounds_toArray, List.set_cons_zero, List.set_cons_succ]
            try simp only [hgeN]
            refine wpAnyH_take (i := 5) (v := ?v26) rfl (by kernel_rfl) (by kernel_rfl) (by kernel_rfl) (fun _ _ _ h => h) (Or.inl ⟨by kernel_rfl, ?h26⟩) HS ?r26
            case h26 => (rintro w ⟨n0, n1, n2, n3, n4, n5, n6, n7, n8⟩; go_simp) <;> with_reducible rfl
            try simp only [Act.put, List.getElem_toArray, List.getElem_cons_succ, List.getElem_cons_zero, List.setIfInBounds_toArray, List.set_cons_zero, List.set_cons_succ]
            refine wpAnyH_take (i := 6) (v := ?v27) rfl (by kernel_rfl) (by kernel_rfl) (by kernel_rfl) (fun _ _ _ h => h) (Or.inl ⟨by kernel_rfl, ?h27⟩) HS ?r27
            case h27 => (rintro w ⟨n0, n1, n2, n3, n4, n5, n6, n7, n8⟩; go_simp) <;> with_reducible rfl
            try simp only [Act.put, List.getElem_toArray, List.getElem_cons_succ, List.getElem_cons_zero, List.setIfInBounds_toArray, List.set_cons_zero, List.set_cons_succ]
            refine wpAnyH_take (i := 7) (v := ?v28) rfl (by kernel_rfl) (by kernel_rfl) (by kernel_rfl) (fun _ _ _ h => h) (Or.inl ⟨by kernel_rfl, ?h28⟩) HS ?r28
            case h28 => (rintro w ⟨n0, n1, n2, n3, n4, n5, n6, n7, n8⟩; go_simp) <;> with_reducible rfl
            try simp only [Act.put, List.getElem_toArray, List.getElem_cons_succ, List.getElem_cons_zero, List.setIfInBounds_toArray, List.set_cons_zero, List.set_cons_succ]
            refine wpAnyH_take (i := 8) (v := ?v29) rfl (by kernel_rfl) (by kernel_rfl) (by kernel_rfl) (fun _ _ _ h => h) (Or.inl ⟨by kernel_rfl, ?h29⟩) HS ?r29
            case h29 => (rintro w ⟨n0, n1, n2, n3, n4, n5, n6, n7, n8⟩; go_simp) <;> with_reducible rfl
            try simp only [Act.put, List.getElem_toArray, List.getElem_cons_succ, List.getElem_cons_zero, List.setIfInBounds_toArray, List.set_cons_zero, List.set_cons_succ]
            try simp only [hltN]
            refine wpAnyH_take (i := 9) (v := ?v30) rfl (by kernel_rfl) (by kernel_rfl) (by kernel_rfl) (fun _ _ _ h => h) (Or.inl ⟨by kernel_rfl, ?h30⟩) HS ?r30
            case h30 => (rintro w ⟨n0, n1, n2, n3, n4, n5, n6, n7, n8⟩; go_simp) <;> with_reducible rfl
            try simp only [Act.put, List.getElem_toArray, List.getElem_cons_succ, List.getElem_cons_zero, List.setIfInBounds_toArray, List.set_cons_zero, List.set_cons_succ]
            refine wpAnyH_take (i := 10) (v := ?v31) rfl (by kernel_rfl) (by kernel_rfl) (by kernel_rfl) (fun _ _ _ h => h) (Or.inl ⟨by kernel_rfl, ?h31⟩) HS ?r31
            case h31 => (rintro w ⟨n0, n1, n2, n3, n4, n5, n6, n7, n8⟩; go_simp) <;> with_reducible rfl
            try simp only [Act.put, List.getElem_toArray, List.getElem_cons_succ, List.getElem_cons_zero, List.setIfInBounds_toArray, List.set_cons_zero, List.set_cons_succ]
            refine wpAnyH_take (i := 11) (v := ?v32) rfl (by kernel_rfl) (by kernel_rfl) (by kernel_rfl) (fun _ _ _ h => h) (Or.inl ⟨by kernel_rfl, ?h32⟩) HS ?r32
            case h32 => (rintro w ⟨n0, n1, n2, n3, n4, n5, n6, n7, n8⟩; go_simp) <;> with_reducible rfl
            try simp only [Act.put, List.getElem_toArray, List.getElem_cons_succ, List.getElem_cons_zero, List.setIfInBounds_toArray, List.set_cons_zero, List.set_cons_succ]
            refine wpAnyH_take (i := 12) (v := ?v33) rfl (by kernel_rfl) (by kernel_rfl) (by kernel_rfl) (fun _ _ _ h => h) (Or.inl ⟨by kernel_rfl, ?h33⟩) HS ?r33
            case h33 => (rintro w ⟨n0, n1, n2, n3, n4, n5, n6, n7, n8⟩; go_simp) <;> with_reducible rfl
            try simp only [Act.put, List.getElem_toArray, List.getElem_cons_succ, List.getElem_cons_zero, List.setIfInBounds_toArray, List.set_cons_zero, List.set_cons_succ]
            refine wpAnyH_take (i := 13) (v := ?v34) rfl (by kernel_rfl) (by kernel_rfl) (by kernel_rfl) (fun _ _ _ h => h) (Or.inl ⟨by kernel_rfl, ?h34⟩) HS ?r34
            case h34 => (rintro w ⟨n0, n1, n2, n3, n4, n5, n6, n7, n8⟩; go_simp) <;> with_reducible rfl
            try simp only [Act.put, List.getElem_toArray, List.getElem_cons_succ, List.getElem_cons_zero, List.setIfInBounds_toArray, List.set_cons_zero, List.set_cons_succ]
            refine wpAnyH_take (i := 14) (v := ?v35) rfl (by kernel_rfl) (by kernel_rfl) (by kernel_rfl) (fun _ _ _ h => h) (Or.inl ⟨by kernel_rfl, ?h35⟩) HS ?r35
            case h35 => (rintro w ⟨n0, n1, n2, n3, n4, n5, n6, n7, n8⟩; go_simp) <;> with_reducible rfl
            try simp only [Act.put, List.getElem_toArray, List.getElem_cons_succ, List.getElem_cons_zero, List.setIfInBounds_toArray, List.set_cons_zero, List.set_cons_succ]
            refine wpAnyH_take (i := 15) (v := ?v36) rfl (by kernel_rfl) (by kernel_rfl) (by kernel_rfl) (fun _ _ _ h => h) (Or.inl ⟨by kernel_rfl, ?h36⟩) HS ?r36
            case h36 => (rintro w ⟨n0, n1, n2, n3, n4, n5, n6, n7, n8⟩; go_simp) <;> with_reducible rfl
            try simp only [Act.put, List.getElem_toArray, List.getElem_cons_succ, List.getElem_cons_zero, List.setIfInBounds_toArray, List.set_cons_zero, List.set_cons_succ]
            refine wpAnyH_take (i := 16) (v := ?v37) rfl (by kernel_rfl) (by kernel_rfl) (by kernel_rfl) (fun _ _ _ h => h) (Or.inl ⟨by kernel_rfl, ?h37⟩) HS ?r37
            case h37 => (rintro w ⟨n0, n1, n2, n3, n4, n5, n6, n7, n8⟩; go_simp) <;> with_reducible rfl
            try simp only [Act.put, List.getElem_toArray, List.getElem_cons_succ, List.getElem_cons_zero, List.setIfInBounds_toArray, List.set_cons_zero, List.set_cons_succ]
            refine wpAnyH_take (i := 17) (v := ?v38) rfl (by kernel_rfl) (by kernel_rfl) (by kernel_rfl) (fun _ _ _ h => h) (Or.inl ⟨by kernel_rfl, ?h38⟩) HS ?r38
            case h38 => (rintro w ⟨n0, n1, n2, n3, n4, n5, n6, n7, n8⟩; go_simp) <;> with_reducible rfl
            try simp only [Act.put, List.getElem_toArray, List.getElem_cons_succ, List.getElem_cons_zero, List.setIfInBounds_toArray, List.set_cons_zero, List.set_cons_succ]
            refine wpAnyH_take (i := 18) (v := ?v39) rfl (by kernel_rfl) (by kernel_rfl) (by kernel_rfl) (fun _ _ _ h => h) (Or.inl ⟨by kernel_rfl, ?h39⟩) HS ?r39
            case h39 => (rintro w ⟨n0, n1, n2, n3, n4, n5, n6, n7, n8⟩; go_simp) <;> with_reducible rfl
            try simp only [Act.put, List.getElem_toArray, List.getElem_cons_succ, List.getElem_cons_zero, List.setIfInBounds_toArray, List.set_cons_zero, List.set_cons_succ]
            refine wpAnyH_take (i := 19) (v := ?v40) rfl (by kernel_rfl) (by kernel_rfl) (by kernel_rfl) (fun _ _ _ h => h) (Or.inl ⟨by kernel_rfl, ?h40⟩) HS ?r40
            case h40 => (rintro w ⟨n0, n1, n2, n3, n4, n5, n6, n7, n8⟩; go_simp) <;> with_reducible rfl
            try simp only [Act.put, List.getElem_toArray, List.getElem_cons_succ, List.getElem_cons_zero, List.setIfInBounds_toArray, List.set_cons_zero, List.set_cons_succ]
            refine wpAnyH_take (i := 20) (v := ?v41) rfl (by kernel_rfl) (by kernel_rfl) (by kernel_rfl) (fun _ _ _ h => h) (Or.inl ⟨by kernel_rfl, ?h41⟩) HS ?r41
            case h41 => (rintro w ⟨n0, n1, n2, n3, n4, n5, n6, n7, n8⟩; go_simp) <;> with_reducible rfl
            try simp only [Act.put, List.getElem_toArray, List.getElem_cons_succ, List.getElem_cons_zero, List.setIfInBounds_toArray, List.set_cons_zero, List.set_cons_succ]
            refine wpAnyH_take (i := 21) (v := ?v42) rfl (by kernel_rfl) (by kernel_rfl) (by kernel_rfl) (fun _ _ _ h => h) (Or.inl ⟨by kernel_rfl, ?h42⟩) HS ?r42
            case h42 => (rintro w ⟨n0, n1, n2, n3, n4, n5, n6, n7, n8⟩; go_simp) <;> with_reducible rfl
            try simp only [Act.put, List.getElem_toArray, List.getElem_cons_succ, List.getElem_cons_zero, List.setIfInBounds_toArray, List.set_cons_zero, List.set_cons_succ]
            refine wpAnyH_take (i := 22) (v := ?v43) rfl (by kernel_rfl) (by kernel_rfl) (by kernel_rfl) (fun _ _ _ h => h) (Or.inl ⟨by kernel_rfl, ?h43⟩) HS ?r43
            case h43 => (rintro w ⟨n0, n1, n2, n3, n4, n5, n6, n7, n8⟩; go_simp) <;> with_reducible rfl
            try simp only [Act.put, List.getElem_toArray, List.getElem_cons_succ, List.getElem_cons_zero, List.setIfInBounds_toArray, List.set_cons_zero, List.set_cons_succ]
            refine wpAnyH_take (i := 23) (v := ?v44) rfl (by kernel_rfl) (by kernel_rfl) (by kernel_rfl) (fun _ _ _ h => h) (Or.inl ⟨by kernel_rfl, ?h44⟩) HS ?r44
            case h44 => (rintro w ⟨n0, n1, n2, n3, n4, n5, n6, n7, n8⟩; go_simp) <;> with_reducible rfl
            try simp only [Act.put, List.getElem_toArray, List.getElem_cons_succ, List.getElem_cons_zero, List.setIfInBounds_toArray, List.set_cons_zero, List.set_cons_succ]
            refine wpAnyH_take (i := 24) (v := ?v45) rfl (by kernel_rfl) (by kernel_rfl) (by kernel_rfl) (fun _ _ _ h => h) (Or.inl ⟨by kernel_rfl, ?h45⟩) HS ?r45
            case h45 => (rintro w ⟨n0, n1, n2, n3, n4, n5, n6, n7, n8⟩; go_simp) <;> with_reducible rfl
            try simp only [Act.put, List.getElem_toArray, List.getElem_cons_succ, List.getElem_cons_zero, List.setIfInBounds_toArray, List.set_cons_zero, List.set_cons_succ]
            refine wpAnyH_take (i := 25) (v := ?v46) rfl (by kernel_rfl) (by kernel_rfl) (by kernel_rfl) (fun _ _ _ h => h) (Or.inl ⟨by kernel_rfl, ?h46⟩) HS ?r46
            case h46 => (rintro w ⟨n0, n1, n2, n3, n4, n5, n6, n7, n8⟩; go_simp) <;> with_reducible rfl
            try simp only [Act.put, List.getElem_toArray, List.getElem_cons_succ, List.getElem_cons_zero, List.setIfInBounds_toArray, List.set_cons_zero, List.set_cons_succ]
            refine wpAnyH_take (i := 26) (v := ?v47) rfl (by kernel_rfl) (by kernel_rfl) (by kernel_rfl) (fun _ _ _ h => h) (Or.inl ⟨by kernel_rfl, ?h47⟩) HS ?r47
            case h47 => (rintro w ⟨n0, n1, n2, n3, n4, n5, n6, n7, n8⟩; go_simp) <;> with_reducible rfl
            try simp only [Act.put, List.getElem_toArray, List.getElem_cons_succ, List.getElem_cons_zero, List.setIfInBounds_toArray, List.set_cons_zero, List.set_cons_succ]
            refine wpAnyH_take (i := 27) (v := ?v48) rfl (by kernel_rfl) (by kernel_rfl) (by kernel_rfl) (fun _ _ _ h => h) (Or.inl ⟨by kernel_rfl, ?h48⟩) HS ?r48
            case h48 => (rintro w ⟨n0, n1, n2, n3, n4, n5, n6, n7, n8⟩; go_simp) <;> with_reducible rfl
            try simp only [Act.put, List.getElem_toArray, List.getElem_cons_succ, List.getElem_cons_zero, List.setIfInBounds_toArray, List.set_cons_zero, List.set_cons_succ]
            refine wpAnyH_ready (rs := [28]) (by kernel_rfl) (by simp) ?_
            refine AllReadyH.cons rfl (fun K hK => ?_) AllReadyH.nil
            go_simp
            refine (sameB_yes _ _ pp _ HPd.out.1 HPd.out.2.1).mono ?_
            rintro e q1 ⟨rfl, hb4⟩
            have HPe : Hid (Bs q1 (.slice aq pp.length cq) pp ∧ Bs q1 (.slice a7 pp.length c7) pp ∧ Below X.heap.size X q1) := ⟨HPd.out.2.1.later hb4, HPd.out.2.2.1.later hb4, bchain HPd.out.2.2.2 hb4⟩
            refine hK.out _ _ (HS.later hb4) (fun HS => ?_)
            clear hK K hb4 HPd
            try simp only [Act.put, List.getElem_toArray, List.getElem_cons_succ, List.getElem_cons_zero, List.setIfInBounds_toArray, List.set_cons_zero, List.set_cons_succ]
            refine wpAnyH_take (i := 29) (v := ?v49) rfl (by kernel_rfl) (by kernel_rfl) (by kernel_rfl) (fun _ _ _ h => h) (Or.inl ⟨by kernel_rfl, ?h49⟩) HS ?r49
            case h49 => (rintro w ⟨n0, n1, n2, n3, n4, n5, n6, n7, n8⟩; go_simp) <;> with_reducible rfl
            try simp only [Act.put, List.getElem_toArray, List.getElem_cons_succ, List.getElem_cons_zero, List.setIfInBounds_toArray, List.set_cons_zero, List.set_cons_succ]
            refine wpAnyH_take (i := 30) (v := ?v50) rfl (by kernel_rfl) (by kernel_rfl) (by kernel_rfl) (fun _ _ _ h => h) (Or.inl ⟨by kernel_rfl, ?h50⟩) HS ?r50
            case h50 => (rintro w ⟨n0, n1, n2, n3, n4, n5, n6, n7, n8⟩; go_simp) <;> with_reducible rfl
            try simp only [Act.put, List.getElem_toArray, List.getElem_cons_succ, List.getElem_cons_zero, List.setIfInBounds_toArray, List.set_cons_zero, List.set_cons_succ]
            refine wpAnyH_take (i := 31) (v := ?v51) rfl (by kernel_rfl) (by kernel_rfl) (by kernel_rfl) (fun _ _ _ h => h) (Or.inl ⟨by kernel_rfl, ?h51⟩) HS ?r51
            case h51 => (rintro w ⟨n0, n1, n2, n3, n4, n5, n6, n7, n8⟩; go_simp) <;> with_reducible rfl
            try simp only [Act.put, List.getElem_toArray, List.getElem_cons_succ, List.getElem_cons_zero, List.setIfInBounds_toArray, List.set_cons_zero, List.set_cons_succ]
            refine wpAnyH_take (i := 32) (v := ?v52) rfl (by kernel_rfl) (by kernel_rfl) (by kernel_rfl) (fun _ _ _ h => h) (Or.inl ⟨by kernel_rfl, ?h52⟩) HS ?r52
            case h52 => (rintro w ⟨n0, n1, n2, n3, n4, n5, n6, n7, n8⟩; go_simp) <;> with_reducible rfl
            try simp only [Act.put, List.getElem_toArray, List.getElem_cons_succ, List.getElem_cons_zero, List.setIfInBounds_toArray, List.set_cons_zero, List.set_cons_succ]
            refine wpAnyH_take (i := 33) (v := ?v53) rfl (by kernel_rfl) (by kernel_rfl) (by kernel_rfl) (fun _ _ _ h => h) (Or.inl ⟨by kernel_rfl, ?h53⟩) HS ?r53
            case h53 => (rintro w ⟨n0, n1, n2, n3, n4, n5, n6, n7, n8⟩; go_simp) <;> with_reducible rfl
            try simp only [Act.put, List.getElem_toArray, List.getElem_cons_succ, List.getElem_cons_zero, List.setIfInBounds_toArray, List.set_cons_zero, List.set_cons_succ]
            refine wpAnyH_take (i := 34) (v := ?v54) rfl (by kernel_rfl) (by kernel_rfl) (by kernel_rfl) (fun _ _ _ h => h) (Or.inl ⟨by kernel_rfl, ?h54⟩) HS ?r54
            case h54 => (rintro w ⟨n0, n1, n2, n3, n4, n5, n6, n7, n8⟩; go_simp) <;> with_reducible rfl
            try simp only [Act.put, List.getElem_toArray, List.getElem_cons_succ, List.getElem_cons_zero, List.setIfInBounds_toArray, List.set_cons_zero, List.set_cons_succ]
            refine wpAnyH_take (i := 35) (v := ?v55) rfl (by kernel_rfl) (by kernel_rfl) (by kernel_rfl) (fun _ _ _ h => h) (Or.inl ⟨by kernel_rfl, ?h55⟩) HS ?r55
            case h55 => (rintro w ⟨n0, n1, n2, n3, n4, n5, n6, n7, n8⟩; go_simp) <;> with_reducible rfl
            try simp only [Act.put, List.getElem_toArray, List.getElem_cons_succ, List.getElem_cons_zero, List.setIfInBounds_toArray, List.set_cons_zero, List.set_cons_succ]
            refine wpAnyH_take (i := 36) (v := ?v56) rfl (by kernel_rfl) (by kernel_rfl) (by kernel_rfl) (fun _ _ _ h => h) (Or.inl ⟨by kernel_rfl, ?h56⟩) HS ?r56
            case h56 => (rintro w ⟨n0, n1, n2, n3, n4, n5, n6, n7, n8⟩; go_simp) <;> with_reducible rfl
            try simp only [Act.put, List.getElem_toArray, List.getElem_cons_succ, List.getElem_cons_zero, List.setIfInBounds_toArray, List.set_cons_zero, List.set_cons_succ]
            refine wpAnyH_take (i := 37) (v := ?v57) rfl (by kernel_rfl) (by kernel_rfl) (by kernel_rfl) (fun _ _ _ h => h) (Or.inl ⟨by kernel_rfl, ?h57⟩) HS ?r57
            case h57 => (rintro w ⟨n0, n1, n2, n3, n4, n5, n6, n7, n8⟩; go_simp) <;> with_reducible rfl
            try simp only [Act.put, List.getElem_toArray, List.getElem_cons_succ, List.getElem_cons_zero, List.setIfInBounds_toArray, List.set_cons_zero, List.set_cons_succ]
            refine wpAnyH_take (i := 38) (v := ?v58) rfl (by kernel_rfl) (by kernel_rfl) (by kernel_rfl) (fun _ _ _ h => h) (Or.inl ⟨by kernel_rfl, ?h58⟩) HS ?r58
            case h58 => (rintro w ⟨n0, n1, n2, n3, n4, n5, n6, n7, n8⟩; go_simp) <;> with_reducible rfl
            try simp only [Act.put, List.getElem_toArray, List.getElem_cons_succ, List.getElem_cons_zero, List.setIfInBounds_toArray, List.set_cons_zero, List.set_cons_succ]
            refine wpAnyH_take (i := 39) (v := ?v59) rfl (by kernel_rfl) (by kernel_rfl) (by kernel_rfl) (fun _ _ _ h => h) (Or.inl ⟨by kernel_rfl, ?h59⟩) HS ?r59
            case h59 => (rintro w ⟨n0, n1, n2, n3, n4, n5, n6, n7, n8⟩; go_simp) <;> with_reducible rfl
            try simp only [Act.put, List.getElem_toArray, List.getElem_cons_succ, List.getElem_cons_zero, List.setIfInBounds_toArray, List.set_cons_zero, List.set_cons_succ]
            refine wpAnyH_take (i := 40) (v := ?v60) rfl (by kernel_rfl) (by kernel_rfl) (by kernel_rfl) (fun _ _ _ h => h) (Or.inl ⟨by kernel_rfl, ?h60⟩) HS ?r60
            case h60 => (rintro w ⟨n0, n1, n2, n3, n4, n5, n6, n7, n8⟩; go_simp) <;> with_reducible rfl
            try simp only [Act.put, List.getElem_toArray, List.getElem_cons_succ, List.getElem_cons_zero, List.setIfInBounds_toArray, List.set_cons_zero, List.set_cons_succ]
            refine wpAnyH_take (i := 41) (v := ?v61) rfl (by kernel_rfl) (by kernel_rfl) (by kernel_rfl) (fun _ _ _ h => h) (Or.inl ⟨by kernel_rfl, ?h61⟩) HS ?r61
            case h61 => (rintro w ⟨n0, n1, n2, n3, n4, n5, n6, n7, n8⟩; go_simp) <;> with_reducible rfl
            try simp only [Act.put, List.getElem_toArray, List.getElem_cons_succ, List.getElem_cons_zero, List.setIfInBounds_toArray, List.set_cons_zero, List.set_cons_succ]
            refine wpAnyH_ready (rs := [42]) (by kernel_rfl) (by simp) ?_
            refine AllReadyH.cons rfl (fun K hK => ?_) AllReadyH.nil
            go_simp
            refine (sameB_yes _ _ pp _ HPe.out.2.1 HPe.out.1).mono ?_
            rintro e q2 ⟨rfl, hb5⟩
            have hXq := bchain HPe.out.2.2 hb5
            have c15 := cell_later hXq HC15.out.1
            have f15 := frozen_later hXq HC15.out.1 HC15.out.2
            have HB4b : Hid (Below X.heap.size X q2) := hXq
            refine hK.out _ _ (HS.later hb5) (fun HS => ?_)
            clear hK K hb5 HPe hXq
            try simp only [Act.put, List.getElem_toArray, List.getElem_cons_succ, List.getElem_cons_zero, List.setIfInBounds_toArray, List.set_cons_zero, List.set_cons_succ]
            refine wpAnyH_take (i := 43) (v := ?v62) rfl (by kernel_rfl) (by kernel_rfl) (by kernel_rfl) (fun _ _ _ h => h) (Or.inl ⟨by kernel_rfl, ?h62⟩) HS ?r62
            case h62 => (rintro w ⟨n0, n1, n2, n3, n4, n5, n6, n7, n8⟩; go_simp) <;> with_reducible rfl
            try simp only [Act.put, List.getElem_toArray, List.getElem_cons_succ, List.getElem_cons_zero, List.setIfInBounds_toArray, List.set_cons_zero, List.set_cons_succ]
            refine wpAnyH_take (i := 44) (v := ?v63) rfl (by kernel_rfl) (by kernel_rfl) (by kernel_rfl) (fun _ _ _ h => h) (Or.inl ⟨by kernel_rfl, ?h63⟩) HS ?r63
            case h63 => (rintro w ⟨n0, n1, n2, n3, n4, n5, n6, n7, n8⟩; go_simp) <;> with_reducible rfl
            try simp only [Act.put, List.getElem_toArray, List.getElem_cons_succ, List.getElem_cons_zero, List.setIfInBounds_toArray, List.set_cons_zero, List.set_cons_succ]
            refine wpAnyH_done (by kernel_rfl) ?_ _
            clear HS
            have hi1 : IntKind.i64.wrap ((i : Int) + 1) = ((i + 1 : Nat) : Int) := by rw [IntKind.wrap_i64]; omega
            gi_wp2
            refine ⟨⟨?_, World.cell?_setCell_same' _ _ _ (by rw [c15]; rfl), by rw [World.frozen?_setCell]; exact f15⟩, ((Kp.of (F := fun k => k = b15) HB4b.out).set (p := ⟨b15, 0, none⟩) (Or.inl rfl) _)⟩
            exact (HHk.out.trans (HB4b.out.mono (by have := HSZ.out; omega))).setCell (Nat.le_refl _) _
end Go.Proofs.YtploeheklekjjabDoor
