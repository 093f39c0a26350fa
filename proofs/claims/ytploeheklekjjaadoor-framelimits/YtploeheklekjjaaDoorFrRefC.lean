/-
  The document's frames (regattaref13): Split.
-/
import Derived.Test.YtploeheklekjjaaDoorFrSplit
set_option linter.unusedVariables false
set_option linter.unusedSimpArgs false
namespace Go.Proofs.YtploeheklekjjaaDoor
open Go.RowKit

theorem slice_runL (w : World) (ad : Option Addr) (n cap p : Nat) (h2 : p ≤ n) :
    (Instr.slice 22 (.slice ad n cap) (some (.int .i64 (p : Int))) none none).run Tryd.prog w = .ok (sv ad p n cap) w := by
  have ht : Tryd.prog.underlying 22 = some (.slice (Tryd.prog.elem 22)) := by kernel_rfl
  have hs : (sizeOf (Tryd.prog.elem 22)).run Tryd.prog w = .ok 1 w := by
    obtain ⟨i0, hti, hi0, hi1, hi2⟩ := byteInfo
    have e : Tryd.prog.elem 22 = 5 := by kernel_rfl
    rw [e]
    simp [sizeOf, typeInfo, hti, hi1]
  rw [run_slice_l w 22 ad n cap ht .i64 (p : Int) (by omega) (by omega), hs]
  simp [Result.andThen, sliced, sv]
theorem sliceAt_runL (w : World) (ad : Option Addr) (n cap p : Nat) (h2 : p ≤ n) :
    (Instr.sliceAt 22 (.slice ad n cap) (some (.int .i64 (p : Int))) none none).run Tryd.prog w = .ok (sv ad p n cap) w := by
  have ht : Tryd.prog.underlying 22 = some (.slice (Tryd.prog.elem 22)) := by kernel_rfl
  rw [run_sliceAt_slice _ _ _ _ _ _ ht, slice_runL w ad n cap p h2]
theorem sv_rest {w : World} {ad : Option Addr} {n cap : Nat} {l : List Nat} (h : Bs w (.slice ad n cap) l) (hn : l.length = n) (p : Nat) (hp : p ≤ n) : Bs w (sv ad p n cap) (l.drop p) := by
  have := sv_bs h p n hp (by omega)
  rw [List.take_of_length_le (by rw [List.length_drop]; omega)] at this
  exact this
theorem own_low {T : TypeId} {B : Nat} {w : World} {v : Value} {fs : List (Nat × List Nat)} (h : Fo T B w v fs) : ∀ g, v.ownBlock = some g → g < w.heap.size := by
  obtain ⟨cs, h1, -⟩ := h
  intro g hg
  exact (h1.lt g hg).2
set_option maxRecDepth 100000 in
set_option maxHeartbeats 8000000 in
theorem refSplit (v : Value) (l : List Nat) (hb : ∀ c ∈ l, c < 256) (hl : l.length ≤ 90000) (w : World) (h : Bs w v l) :
    Calls Tryd.prog 17 #[v] w fun e w' => ∃ v', e = .returned (.tuple #[v', .int .i64 (((spl l).2.1 : Nat) : Int), .int .i64 (((spl l).2.2 : Nat) : Int)]) ∧ Frs w' v' (spl l).1 ∧ Below w.heap.size w w' := by
  have HL : Hid (Bs w v l) := h
  have HY : Hid (∀ c ∈ l, c < 256) := hb
  obtain ⟨ad, cap, rfl, k1, k2⟩ := h.len
  unfold maxLen at k2
  obtain ⟨n, hn⟩ : ∃ n, l.length = n := ⟨_, rfl⟩
  have HN : Hid (l.length = n) := hn
  rw [hn] at k1 hl HL ⊢
  clear h hn hb
  go_enter Tryd.func17, Tryd.ntmps17
  go_upto_region 3 with fail
  go_loopw [5, 6] (fun s5 s6 wr => ∃ (p : Nat) (fs : List (Nat × List Nat)), p ≤ n ∧ fs.length ≤ p ∧ s6 = .int .i64 (p : Int) ∧ Hid (Spd l p fs) ∧ Hid (Fo 34 w.heap.size wr s5 fs ∧ Below w.heap.size w wr)) (fun _ s6 _ => n - (intOf s6).toNat)
  case atStart => exact ⟨0, [], by omega, Nat.le_refl _, rfl, spd_zero l, fo_nil _ _ _, Below.refl _ _⟩
  case round =>
    obtain ⟨p, fs, hp, hfl, rfl, HS, HF⟩ := hrel
    have HFL : Hid (fs.length ≤ p) := hfl
    clear hfl
    by_cases hlt : p < n
    · have hpI : (p : Int) < (n : Int) := by omega
      have s1 : ∀ W : World, (Instr.sliceAt 22 (.slice ad n cap) (some (.int .i64 (p : Int))) none none).run Tryd.prog W = .ok (sv ad p n cap) W := fun W => sliceAt_runL W ad n cap p hp
      have s2 : ∀ W : World, (Instr.slice 22 (.slice ad n cap) (some (.int .i64 (p : Int))) none none).run Tryd.prog W = .ok (sv ad p n cap) W := fun W => slice_runL W ad n cap p hp
      have HR : Hid (Bs wr (sv ad p n cap) (l.drop p) ∧ (∀ c ∈ l.drop p, c < 256) ∧ (l.drop p).length ≤ 90000) := ⟨sv_rest (HL.out.later HF.out.2) HN.out p hp, fun c hc => HY.out c (List.mem_of_mem_drop hc), by rw [List.length_drop]; have := HN.out; omega⟩
      have HOK : Hid (opE (l.drop p) = 0 → Spd l (p + opN (l.drop p)) (fs ++ [(opK (l.drop p), opP (l.drop p))]) ∧ 12 ≤ opN (l.drop p) ∧ p + opN (l.drop p) ≤ n) := fun q => ⟨HS.out.step (by have := HN.out; omega) q, opN_pos q, by have := (HS.out.step (by have := HN.out; omega) q).1; have := HN.out; omega⟩
      have HNO : Hid (opE (l.drop p) ≠ 0 → spl l = (fs, p, opE (l.drop p))) := fun q => HS.out.stop (by have := HN.out; omega) q
      go_wp2_with fail
      refine (refOpen _ (l.drop p) HR.out.2.1 HR.out.2.2 _ HR.out.1).mono ?_
      rintro e w1 ⟨vp, rfl, hL1, hO1, hB1⟩
      have hnb : ∀ g, u5.ownBlock = some g → Nb vp g := fun g hg => ow_apart hO1 (own_low HF.out.1 g hg)
      have HF1 : Hid (Fo 34 w.heap.size w1 u5 fs ∧ Below w.heap.size w w1 ∧ Bs w1 vp (opP (l.drop p)) ∧ ∀ g, u5.ownBlock = some g → Nb vp g) := ⟨HF.out.1.later hB1, bchain HF.out.2 hB1, hL1, hnb⟩
      obtain ⟨a1, p1, rfl, -, -⟩ := hL1.len
      clear hL1 hO1 hB1 hnb s1 s2 HR HF HS
      generalize l.drop p = D at *
      generalize opE D = E at *
      generalize opN D = N at *
      generalize opK D = K at *
      generalize opP D = P at *
      by_cases hE : E = 0
      · subst hE
        obtain ⟨hS2, hN12, hNn⟩ := HOK.out rfl
        have HS2 : Hid (Spd l (p + N) (fs ++ [(K, P)])) := hS2
        have hadd : IntKind.i64.wrap ((p : Int) + (N : Int)) = ((p + N : Nat) : Int) := by rw [IntKind.wrap_i64]; omega
        have HFB : Hid (∀ o : Obj, Fo 34 w.heap.size (w1.alloc o) u5 fs ∧ Below w.heap.size w (w1.alloc o) ∧ Bs (w1.alloc o) (.slice a1 P.length p1) P) := fun o => ⟨HF1.out.1.later (bel1 _ _), HF1.out.2.1.alloc HF1.out.2.1.size _, HF1.out.2.2.1.later (bel1 _ _)⟩
        have HNb : Hid (∀ g, u5.ownBlock = some g → Nb (.slice a1 P.length p1) g) := HF1.out.2.2.2
        clear hS2 HOK HNO HF1
        go_wp2_with (at_builtin; refine apFr rfl _ _ rfl w.heap.size u5 fs rfl (HFB.out _).1 K P a1 P.length p1 (HFB.out _).2.2 HNb.out _ (by first | rfl | (rw [World.size_alloc]; rfl)) (by have := HFL.out; omega) (HFB.out _).2.1.size ?_; intro v3 w3 hF3 hg3)
        have HF3 : Hid (Fo 34 w.heap.size w3 v3 (fs ++ [(K, P)]) ∧ Below w.heap.size w w3) := ⟨hF3, hg3.1 _ (HFB.out _).2.1⟩
        have HL3 : Hid ((fs ++ [(K, P)]).length ≤ p + N) := by
          show _ ≤ _
          have := HFL.out
          rw [List.length_append]
          simp
          omega
        clear hF3 hg3 HFB HNb
        go_wp2
        go_roundw
        case rel => exact ⟨p + N, fs ++ [(K, P)], by omega, HL3.out, by go_num, HS2, HF3⟩
        case measure => simp [intOf]; omega
      · have hEI : ¬ (E : Int) = 0 := by omega
        have HSP : Hid (spl l = (fs, p, E)) := HNO.out hE
        obtain ⟨a2, p2, rfl⟩ := HF1.out.1.sl
        have HQ : Hid (∀ o : Obj, Frs (w1.alloc o) (.slice a2 fs.length p2) fs ∧ Below w.heap.size w (w1.alloc o)) := fun o => ⟨HF1.out.1.frs.later (bel1 _ _), HF1.out.2.1.alloc HF1.out.2.1.size _⟩
        clear HOK HNO HF1
        go_wp2
        go_ret3
        exact ⟨_, by rw [HSP.out]; rfl, by rw [HSP.out]; exact (HQ.out _).1, (HQ.out _).2⟩
    · obtain rfl : p = n := by omega
      have hpI : ¬ (p : Int) < (p : Int) := by omega
      have HSP : Hid (spl l = (fs, p, 0)) := by
        have h := HS.out
        have hN := HN.out
        rw [← hN] at h ⊢
        exact h.last
      obtain ⟨a2, p2, rfl⟩ := HF.out.1.sl
      have HQ : Hid (Frs wr (.slice a2 fs.length p2) fs ∧ Below w.heap.size w wr) := ⟨HF.out.1.frs, HF.out.2⟩
      clear HS HF
      go_wp2
      go_ret3
      exact ⟨_, by rw [HSP.out]; rfl, by rw [HSP.out]; exact HQ.out.1, HQ.out.2⟩
end Go.Proofs.YtploeheklekjjaaDoor
