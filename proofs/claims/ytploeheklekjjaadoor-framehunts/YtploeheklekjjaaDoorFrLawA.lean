/-
  The laws of layer 13: like, FrameSeals, FrameOpens.
-/
import Derived.Test.YtploeheklekjjaaDoorFrDefs
set_option linter.unusedVariables false
set_option linter.unusedSimpArgs false
namespace Go.Proofs.YtploeheklekjjaaDoor
open Go.RowKit

set_option maxRecDepth 100000 in
set_option maxHeartbeats 8000000 in
theorem like13 (k : Int) (vp vq : Value) (l : List Nat) (w : World) (h1 : Bs w vp l) (h2 : Bs w vq l) :
    Calls Tryd.prog 15 #[.agg #[.int .i64 k, vp], .agg #[.int .i64 k, vq]] w fun e w' => e = .returned (.bool true) ∧ Below w.heap.size w w' := by
  obtain ⟨a1, p1, rfl, -, -⟩ := h1.len
  obtain ⟨a2, p2, rfl, -, -⟩ := h2.len
  have HH : Hid (∀ o1 o2 : Obj, Bs ((w.alloc o1).alloc o2) (.slice a1 l.length p1) l ∧ Bs ((w.alloc o1).alloc o2) (.slice a2 l.length p2) l ∧ Below w.heap.size w ((w.alloc o1).alloc o2)) := fun o1 o2 => ⟨h1.later (bel2 w o1 o2), h2.later (bel2 w o1 o2), bel2 w o1 o2⟩
  clear h1 h2
  go_enter Tryd.func15, Tryd.ntmps15
  go_wp2_with fail
  refine (sameB _ _ _ _ _ (HH.out _ _).1 (HH.out _ _).2.1).mono ?_
  rintro e w1 ⟨rfl, hb⟩
  have HB : Hid (Below w.heap.size w w1) := bchain (HH.out _ _).2.2 hb
  rw [decide_eq_true rfl]
  clear hb HH
  go_wp2
  go_ret
  exact ⟨rfl, HB.out⟩
set_option maxRecDepth 100000 in
set_option maxHeartbeats 8000000 in
theorem frameSeals_any (V : Fr1) (k : Int) (v : Value) (l : List Nat) (hb : ∀ c ∈ l, c < 256) (w : World) (h : Bs w v l) (hT : FT w) :
    Calls Tryd.prog 3 #[.int .i64 k, v] w fun e w' => e = .returned (.bool true) ∧ Below w.heap.size w w' := by
  have HL : Hid (Bs w v l) := h
  have HY : Hid (∀ c ∈ l, c < 256) := hb
  have HT : Hid (FT w) := hT
  obtain ⟨ad, cap, rfl, k1, k2⟩ := h.len
  unfold maxLen at k2
  obtain ⟨n, hn⟩ : ∃ n, l.length = n := ⟨_, rfl⟩
  have HN : Hid (l.length = n) := hn
  rw [hn] at k1 HL ⊢
  clear h hn hb hT
  go_enter Tryd.func3, Tryd.ntmps3
  go_wp2_with fail
  refine (awake13 V w HT.out).mono ?_
  rintro e w1 ⟨rfl, hb1⟩
  have HB1 : Hid (Below w.heap.size w w1) := hb1
  clear hb1
  by_cases q1 : 3000 < n
  · have q1I : (3000 : Int) < (n : Int) := by omega
    go_wp2
    go_ret
    exact ⟨rfl, HB1.out⟩
  have q1I : ¬ (3000 : Int) < (n : Int) := by omega
  by_cases hk : k < 1 ∨ 255 < k
  · go_wp2_with fail
    refine (V.sealKind _ k _ l hk (HL.out.later HB1.out) (HT.out.later HB1.out)).mono ?_
    rintro e w2 ⟨v2, rfl, hL2, hB2⟩
    obtain ⟨ad2, cap2, rfl, -, -⟩ := hL2.len
    have HB2 : Hid (Below w.heap.size w w2) := bchain HB1.out hB2
    clear hL2 hB2
    rcases hk with hk | hk
    · go_wp2
      go_ret
      exact ⟨rfl, HB2.out⟩
    · have hk2 : ¬ k < 1 := by omega
      go_wp2
      go_ret
      exact ⟨rfl, HB2.out⟩
  · obtain ⟨K, rfl⟩ : ∃ K : Nat, k = (K : Int) := ⟨k.toNat, by omega⟩
    have hk1 : ¬ (K : Int) < 1 := by omega
    have hk2 : ¬ (255 : Int) < (K : Int) := by omega
    have HK : Hid (1 ≤ K ∧ K ≤ 255) := ⟨by omega, by omega⟩
    clear hk
    go_wp2_with fail
    refine (V.sealOk _ K _ l HK.out.1 HK.out.2 (HL.out.later HB1.out) HY.out (by have := HN.out; omega) (HT.out.later HB1.out)).mono ?_
    rintro e w2 ⟨v2, rfl, hO2, hB2⟩
    have HL2 : Hid (Bs w2 v2 (fsl K l)) := hO2.bs.1
    obtain ⟨ad2, cap2, rfl⟩ := hO2.sl
    have HB2 : Hid (Below w.heap.size w w2) := bchain HB1.out hB2
    clear hO2 hB2
    go_wp2_with fail
    refine (refSeal K (by have := HK.out; omega) _ l HY.out (by have := HN.out; omega) _ (HL.out.later HB2.out)).mono ?_
    rintro e w3 ⟨v3, rfl, hL3, hB3⟩
    have HB3 : Hid (Below w.heap.size w w3 ∧ Bs w3 v3 (fsl K l) ∧ Bs w3 (.slice ad2 (fsl K l).length cap2) (fsl K l)) := ⟨bchain HB2.out hB3, hL3, HL2.out.later hB3⟩
    obtain ⟨ad3, cap3, rfl, -, -⟩ := hL3.len
    clear hL3 hB3 HL2 HB2
    go_wp2_with fail
    refine (sameB _ _ _ _ _ HB3.out.2.2 HB3.out.2.1).mono ?_
    rintro e w4 ⟨rfl, hB4⟩
    have HB4 : Hid (Below w.heap.size w w4) := bchain HB3.out.1 hB4
    rw [decide_eq_true rfl]
    clear hB4 HB3
    go_wp2
    go_ret
    exact ⟨rfl, HB4.out⟩
set_option maxRecDepth 100000 in
set_option maxHeartbeats 8000000 in
theorem frameOpens_any (V : Fr1) (v : Value) (l : List Nat) (hb : ∀ c ∈ l, c < 256) (w : World) (h : Bs w v l) (hT : FT w) :
    Calls Tryd.prog 4 #[v] w fun e w' => e = .returned (.bool true) ∧ Below w.heap.size w w' := by
  have HL : Hid (Bs w v l) := h
  have HY : Hid (∀ c ∈ l, c < 256) := hb
  have HT : Hid (FT w) := hT
  obtain ⟨ad, cap, rfl, k1, k2⟩ := h.len
  unfold maxLen at k2
  obtain ⟨n, hn⟩ : ∃ n, l.length = n := ⟨_, rfl⟩
  have HN : Hid (l.length = n) := hn
  rw [hn] at k1 HL ⊢
  clear h hn hb hT
  go_enter Tryd.func4, Tryd.ntmps4
  go_wp2_with fail
  refine (awake13 V w HT.out).mono ?_
  rintro e w1 ⟨rfl, hb1⟩
  have HB1 : Hid (Below w.heap.size w w1) := hb1
  clear hb1
  by_cases q1 : 3000 < n
  · have q1I : (3000 : Int) < (n : Int) := by omega
    go_wp2
    go_ret
    exact ⟨rfl, HB1.out⟩
  have q1I : ¬ (3000 : Int) < (n : Int) := by omega
  go_wp2_with fail
  refine (V.opn _ _ l (HL.out.later HB1.out) HY.out (by have := HN.out; omega) (HT.out.later HB1.out)).mono ?_
  rintro e w2 ⟨v2, rfl, hL2, hO2, hB2⟩
  have HB2 : Hid (Below w.heap.size w w2) := bchain HB1.out hB2
  have HL2 : Hid (Bs w2 v2 (opP l)) := hL2
  obtain ⟨ad2, cap2, rfl, -, -⟩ := hL2.len
  clear hL2 hO2 hB2 HB1
  have HC : Hid (∀ W, Bs W (.slice ad n cap) l → Calls Tryd.prog 14 #[.slice ad n cap] W fun e w' => ∃ vp, e = .returned (.tuple #[.agg #[.int .i64 ((opK l : Nat) : Int), vp], .int .i64 ((opN l : Nat) : Int), .int .i64 ((opE l : Nat) : Int)]) ∧ Bs w' vp (opP l) ∧ Ow W.heap.size vp ∧ Below W.heap.size W w') := fun W hW => refOpen _ l HY.out (by have := HN.out; omega) W hW
  generalize opK l = K at *
  generalize opN l = N at *
  generalize opE l = E at *
  generalize opP l = P at *
  have HX2 : Hid (Bx2 w2.heap.size (.int .i64 (K : Int)) (.slice ad2 P.length cap2) (w2.alloc (.cells #[.int .i64 (K : Int), .slice ad2 P.length cap2] 31)) ∧ Bs (w2.alloc (.cells #[.int .i64 (K : Int), .slice ad2 P.length cap2] 31)) (.slice ad2 P.length cap2) P ∧ Below w.heap.size w (w2.alloc (.cells #[.int .i64 (K : Int), .slice ad2 P.length cap2] 31))) := ⟨Bx2.new _ _ _ _, HL2.out.later (bel1 _ _), HB2.out.alloc HB2.out.size _⟩
  clear HL2 HB2
  go_upto_region 6 with fail
  generalize w2.alloc (.cells #[.int .i64 (K : Int), .slice ad2 P.length cap2] 31) = w3 at *
  go_wp2_with fail
  refine (HC.out _ (HL.out.later HX2.out.2.2)).mono ?_
  rintro e w4 ⟨v4, rfl, hL4, -, hB4⟩
  have HX4 : Hid (Bx2 w2.heap.size (.int .i64 (K : Int)) (.slice ad2 P.length cap2) w4 ∧ Bs w4 (.slice ad2 P.length cap2) P ∧ Below w.heap.size w w4 ∧ Bs w4 v4 P) := ⟨HX2.out.1.later hB4, HX2.out.2.1.later hB4, bchain HX2.out.2.2 hB4, hL4⟩
  obtain ⟨ad4, cap4, rfl, -, -⟩ := hL4.len
  clear hL4 hB4 HX2 HC
  have HX5 : Hid (∀ t : TypeId, Bx2 w4.heap.size (.int .i64 (K : Int)) (.slice ad4 P.length cap4) (w4.alloc (.cells #[.int .i64 (K : Int), .slice ad4 P.length cap4] t))) := fun t => Bx2.new _ _ _ _
  have y0 : ∀ ob : Obj, (w4.alloc ob).cell? ⟨w2.heap.size, 0, none⟩ = some (.int .i64 (K : Int)) := fun ob => cell_later (bel1 _ _) HX4.out.1.c0
  have y1 : ∀ ob : Obj, (w4.alloc ob).cell? ⟨w2.heap.size, 1, none⟩ = some (.slice ad2 P.length cap2) := fun ob => cell_later (bel1 _ _) HX4.out.1.c1
  have HL5 : Hid (∀ ob : Obj, Bs (w4.alloc ob) (.slice ad2 P.length cap2) P ∧ Bs (w4.alloc ob) (.slice ad4 P.length cap4) P ∧ Below w.heap.size w (w4.alloc ob)) := fun ob => ⟨HX4.out.2.1.later (bel1 _ _), HX4.out.2.2.2.later (bel1 _ _), HX4.out.2.2.1.alloc HX4.out.2.2.1.size _⟩
  clear HX4
  go_wp2_with fail
  refine (like13 (K : Int) _ _ P _ (HL5.out _).1 (HL5.out _).2.1).mono ?_
  rintro e w6 ⟨rfl, hB6⟩
  have HB6 : Hid (Below w.heap.size w w6) := bchain (HL5.out _).2.2 hB6
  clear hB6 HL5 HX5 y0 y1
  go_wp2
  go_ret
  exact ⟨by simp, HB6.out⟩
end Go.Proofs.YtploeheklekjjaaDoor
