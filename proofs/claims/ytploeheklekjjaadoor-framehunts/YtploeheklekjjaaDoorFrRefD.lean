/-
  The document's frames (regattaref13): Hunt.
-/
import Derived.Test.YtploeheklekjjaaDoorFrHunt
set_option linter.unusedVariables false
set_option linter.unusedSimpArgs false
namespace Go.Proofs.YtploeheklekjjaaDoor
open Go.RowKit

set_option maxRecDepth 100000 in
set_option maxHeartbeats 8000000 in
theorem refHunt (v : Value) (l : List Nat) (hb : ∀ c ∈ l, c < 256) (hl : l.length ≤ 90000) (w : World) (h : Bs w v l) :
    Calls Tryd.prog 18 #[v] w fun e w' => ∃ v4 v5, e = .returned (.tuple #[v4, v5]) ∧ Is w' v4 (hpl (hnt l 0)) ∧ Frs w' v5 (hfr (hnt l 0)) ∧ Below w.heap.size w w' := by
  have HL : Hid (Bs w v l) := h
  have HY : Hid (∀ c ∈ l, c < 256) := hb
  obtain ⟨ad, cap, rfl, k1, k2⟩ := h.len
  unfold maxLen at k2
  obtain ⟨n, hn⟩ : ∃ n, l.length = n := ⟨_, rfl⟩
  have HN : Hid (l.length = n) := hn
  rw [hn] at k1 hl HL ⊢
  clear h hn hb
  go_enter Tryd.func18, Tryd.ntmps18
  go_upto_region 4 with fail
  go_loopw [4, 5, 6] (fun s4 s5 s6 wr => ∃ (p : Nat) (ps : List Int) (fs : List (Nat × List Nat)), p ≤ n ∧ Hid (ps.length ≤ p ∧ fs.length ≤ p) ∧ s6 = .int .i64 (p : Int) ∧ Hid (Hnd l p ps fs) ∧ Hid (Hu w.heap.size wr s4 s5 ps fs ∧ Below w.heap.size w wr)) (fun _ _ s6 _ => n - (intOf s6).toNat)
  case atStart => exact ⟨0, [], [], by omega, ⟨Nat.le_refl _, Nat.le_refl _⟩, rfl, hnd_zero l, hu_nil _ _, Below.refl _ _⟩
  case round =>
    obtain ⟨p, ps, fs, hp, HFL, rfl, HS, HF⟩ := hrel
    by_cases hlt : p < n
    · have hpI : (p : Int) < (n : Int) := by omega
      have s1 : ∀ W : World, (Instr.sliceAt 22 (.slice ad n cap) (some (.int .i64 (p : Int))) none none).run Tryd.prog W = .ok (sv ad p n cap) W := fun W => sliceAt_runL W ad n cap p hp
      have s2 : ∀ W : World, (Instr.slice 22 (.slice ad n cap) (some (.int .i64 (p : Int))) none none).run Tryd.prog W = .ok (sv ad p n cap) W := fun W => slice_runL W ad n cap p hp
      have HR : Hid (Bs wr (sv ad p n cap) (l.drop p) ∧ (∀ c ∈ l.drop p, c < 256) ∧ (l.drop p).length ≤ 90000) := ⟨sv_rest (HL.out.later HF.out.2) HN.out p hp, fun c hc => HY.out c (List.mem_of_mem_drop hc), by rw [List.length_drop]; have := HN.out; omega⟩
      have HOK : Hid (opE (l.drop p) = 0 → Hnd l (p + opN (l.drop p)) (ps ++ [((p : Nat) : Int)]) (fs ++ [(opK (l.drop p), opP (l.drop p))]) ∧ 12 ≤ opN (l.drop p) ∧ p + opN (l.drop p) ≤ n) := fun q => ⟨HS.out.step (by have := HN.out; omega) q, opN_pos q, by have := opN_le q; rw [List.length_drop] at this; have := HN.out; omega⟩
      have HNO : Hid (opE (l.drop p) ≠ 0 → Hnd l (p + 1) ps fs) := fun q => HS.out.skip (by have := HN.out; omega) q
      go_wp2_with fail
      refine (refOpen _ (l.drop p) HR.out.2.1 HR.out.2.2 _ HR.out.1).mono ?_
      rintro e w1 ⟨vp, rfl, hL1, hO1, hB1⟩
      have HF1 : Hid (Hu w.heap.size w1 u4 u5 ps fs ∧ Below w.heap.size w w1 ∧ Bs w1 vp (opP (l.drop p)) ∧ (∀ g, u4.ownBlock = some g → Nb vp g) ∧ (∀ g, u5.ownBlock = some g → Nb vp g)) := ⟨HF.out.1.later hB1, bchain HF.out.2 hB1, hL1, (fun g hg => ow_apart hO1 (HF.out.1.low.1 g hg)), (fun g hg => ow_apart hO1 (HF.out.1.low.2 g hg))⟩
      obtain ⟨a1, p1, rfl, -, -⟩ := hL1.len
      clear hL1 hO1 hB1 s1 s2 HR HF HS
      generalize l.drop p = D at *
      generalize opE D = E at *
      generalize opN D = N at *
      generalize opK D = K at *
      generalize opP D = P at *
      by_cases hE : E = 0
      · subst hE
        obtain ⟨hS2, hN12, hNn⟩ := HOK.out rfl
        have HS2 : Hid (Hnd l (p + N) (ps ++ [((p : Nat) : Int)]) (fs ++ [(K, P)])) := hS2
        have hadd : IntKind.i64.wrap ((p : Int) + (N : Int)) = ((p + N : Nat) : Int) := by rw [IntKind.wrap_i64]; omega
        have HX2 : Hid (Hu w.heap.size (w1.alloc (.cells #[.int .i64 (K : Int), .slice a1 P.length p1] 34)) u4 u5 ps fs ∧ Below w.heap.size w (w1.alloc (.cells #[.int .i64 (K : Int), .slice a1 P.length p1] 34)) ∧ Bs (w1.alloc (.cells #[.int .i64 (K : Int), .slice a1 P.length p1] 34)) (.slice a1 P.length p1) P ∧ Bx2 w1.heap.size (.int .i64 (K : Int)) (.slice a1 P.length p1) (w1.alloc (.cells #[.int .i64 (K : Int), .slice a1 P.length p1] 34))) := ⟨HF1.out.1.later (bel1 _ _), HF1.out.2.1.alloc HF1.out.2.1.size _, HF1.out.2.2.1.later (bel1 _ _), Bx2.new _ _ _ _⟩
        have HNb : Hid ((∀ g, u4.ownBlock = some g → Nb (.slice a1 P.length p1) g) ∧ (∀ g, u5.ownBlock = some g → Nb (.slice a1 P.length p1) g) ∧ ∀ g, u4.ownBlock = some g → g ≠ w1.heap.size) := ⟨HF1.out.2.2.2.1, HF1.out.2.2.2.2, fun g hg => by have := HF1.out.1.low.1 g hg; omega⟩
        clear hS2 HOK HNO HF1
        go_upto_region 7 with fail
        generalize (w1.alloc (.cells #[.int .i64 (K : Int), .slice a1 P.length p1] 34)) = w2 at *
        generalize w1.heap.size = bx at *
        go_upto_region 8 with (at_builtin; refine apHp rfl _ _ rfl w.heap.size u4 u5 ps fs rfl HX2.out.1 ((p : Nat) : Int) _ rfl (by have := HFL.out; omega) HX2.out.2.1.size ?_; intro v3 w3 hU3 hg3 hk3 hx3)
        have HX3 : Hid (Hu w.heap.size w3 v3 u5 (ps ++ [((p : Nat) : Int)]) fs ∧ Below w.heap.size w w3 ∧ Bs w3 (.slice a1 P.length p1) P ∧ Bx2 bx (.int .i64 (K : Int)) (.slice a1 P.length p1) w3 ∧ ∀ g, v3.ownBlock = some g → Nb (.slice a1 P.length p1) g) := ⟨hU3, hg3.1 _ HX2.out.2.1, (hk3 _ _ HX2.out.2.2.1 HNb.out.1).1, hx3 _ _ _ HX2.out.2.2.2 HNb.out.2.2, (hk3 _ _ HX2.out.2.2.1 HNb.out.1).2⟩
        have HNc : Hid (∀ g, u5.ownBlock = some g → Nb (.slice a1 P.length p1) g) := HNb.out.2.1
        clear hU3 hg3 hk3 hx3 HX2 HNb
        have c0 := HX3.out.2.2.2.1.c0
        have c1 := HX3.out.2.2.2.1.c1
        go_upto_region 9 with (at_builtin; refine apHf rfl _ _ rfl w.heap.size v3 u5 (ps ++ [((p : Nat) : Int)]) fs rfl HX3.out.1 K P a1 P.length p1 HX3.out.2.2.1 HNc.out HX3.out.2.2.2.2 _ rfl (by have := HFL.out; omega) HX3.out.2.1.size ?_; intro v6 w6 hU6 hg6)
        have HF6 : Hid (Hu w.heap.size w6 v3 v6 (ps ++ [((p : Nat) : Int)]) (fs ++ [(K, P)]) ∧ Below w.heap.size w w6) := ⟨hU6, hg6.1 _ HX3.out.2.1⟩
        have HL6 : Hid ((ps ++ [((p : Nat) : Int)]).length ≤ p + N ∧ (fs ++ [(K, P)]).length ≤ p + N) := by
          have := HFL.out
          constructor
          · rw [List.length_append]
            simp
            omega
          · rw [List.length_append]
            simp
            omega
        clear hU6 hg6 HX3 HNc c0 c1
        go_wp2
        go_roundw
        case rel => exact ⟨p + N, _, _, by omega, HL6, by go_num, HS2, HF6⟩
        case measure => simp [intOf]; omega
      · have hEI : ¬ (E : Int) = 0 := by omega
        have HS2 : Hid (Hnd l (p + 1) ps fs) := HNO.out hE
        have HQ : Hid (∀ o : Obj, Hu w.heap.size (w1.alloc o) u4 u5 ps fs ∧ Below w.heap.size w (w1.alloc o)) := fun o => ⟨HF1.out.1.later (bel1 _ _), HF1.out.2.1.alloc HF1.out.2.1.size _⟩
        have HL6 : Hid (ps.length ≤ p + 1 ∧ fs.length ≤ p + 1) := ⟨by have := HFL.out; omega, by have := HFL.out; omega⟩
        clear HOK HNO HF1
        go_wp2
        go_roundw
        case rel => exact ⟨p + 1, ps, fs, by omega, HL6, by go_num, HS2, HQ.out _⟩
        case measure => simp [intOf]; omega
    · obtain rfl : p = n := by omega
      have hpI : ¬ (p : Int) < (p : Int) := by omega
      have HSP : Hid (hpl (hnt l 0) = ps ∧ hfr (hnt l 0) = fs) := HS.out.last (by have := HN.out; omega)
      obtain ⟨a4, p4, rfl⟩ := Oi.sl HF.out.1.1
      obtain ⟨a5, p5, rfl⟩ := HF.out.1.fo.sl
      have HQ : Hid (Is wr (.slice a4 ps.length p4) ps ∧ Frs wr (.slice a5 fs.length p5) fs ∧ Below w.heap.size w wr) := ⟨(Oi.is HF.out.1.1).1, HF.out.1.fo.frs, HF.out.2⟩
      clear HS HF
      go_wp2
      go_ret2
      exact ⟨_, _, rfl, by rw [HSP.out.1]; exact HQ.out.1, by rw [HSP.out.2]; exact HQ.out.2.1, HQ.out.2.2⟩
end Go.Proofs.YtploeheklekjjaaDoor
