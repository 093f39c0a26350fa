/-
  A thing is written by the program (regattalaw12's Thing.write).
-/
import Derived.Test.YtahbpegjdmblaaaPkDefs
set_option linter.unusedVariables false
set_option linter.unusedSimpArgs false
namespace Go.Proofs.Ytahbpegjdmblaaa
open Go.RowKit

theorem hidI {p : Prop} (h : p) : Hid p := h
theorem Af.pre {T : World → Value → (Nat → Prop) → Sta → Prop} {p : Value} {F : Nat → Prop} {s : Sta} {w w1 w' : World} (hb : Below w.heap.size w w1) (h : Af T p F s w1 w') : Af T p F s w w' := by
  obtain ⟨F', h1, h2, h3⟩ := h
  refine ⟨F', h1, fun k hk => ?_, (Kp.of hb).trans h3 (fun i hi => Or.inl hi)⟩
  rcases h2 k hk with q | q
  · exact Or.inl q
  · have := hb.size; exact Or.inr (by omega)
theorem Af.post {T : World → Value → (Nat → Prop) → Sta → Prop} {p : Value} {F : Nat → Prop} {s : Sta} {w w1 w' : World} (hT : ∀ {w w' : World} {p : Value} {F : Nat → Prop} {s : Sta}, T w p F s → Below w.heap.size w w' → T w' p F s) (h : Af T p F s w w1) (hb : Below w1.heap.size w1 w') : Af T p F s w w' := by
  obtain ⟨F', h1, h2, h3⟩ := h
  exact ⟨F', hT h1 hb, h2, h3.grow hb h3.size⟩
/-- Where a writer stands when a thing was written. -/
def putT (t : Th) (s : Sta) : Sta := if 1 ≤ t.k ∧ t.k ≤ 6 then pt s t.form else s
theorem putT_in {t : Th} (h1 : 1 ≤ t.k) (h2 : t.k ≤ 6) (s : Sta) : putT t s = pt s t.form := by unfold putT; rw [if_pos ⟨h1, h2⟩]
theorem putT_out {t : Th} (h : ¬ (1 ≤ t.k ∧ t.k ≤ 6)) (s : Sta) : putT t s = s := by unfold putT; rw [if_neg h]
/-- A thing's value. -/
def thv (t : Th) (vb vl vf : Value) : Value := .agg #[.int .i64 t.k, .int .u64 (t.u : Int), .int .i64 t.n, .int .i64 t.x, vb, vl, vf]
set_option maxRecDepth 100000 in
set_option maxHeartbeats 8000000 in
theorem write12 (V : Pack1) (t : Th) (g : t.good) (g2 : t.b.length ≤ 2000000 ∧ t.l.length ≤ 2000000 ∧ t.f.length ≤ 2000000) (vb vl vf p : Value) (F : Nat → Prop) (s : Sta) (w : World) (hb : Bs w vb t.b) (hl : Is w vl t.l) (hf : Is w vf t.f) (nb : Nf F vb) (nl : Nf F vl) (nf : Nf F vf) (hW : V.Wt w p F s) :
    Calls Try.prog 11 #[.agg #[.int .i64 t.k, .int .u64 (t.u : Int), .int .i64 t.n, .int .i64 t.x, vb, vl, vf], p] w fun e w' => e = .returned (.tuple #[]) ∧ Af V.Wt p F (putT t s) w w' := by
  have H1 : Hid (∀ o : Obj, V.Wt (w.alloc o) p F s ∧ Bs (w.alloc o) vb t.b ∧ Is (w.alloc o) vl t.l ∧ Is (w.alloc o) vf t.f) := fun o => ⟨V.wl hW (bel1 w o), hb.later (bel1 w o), hl.later (bel1 w o), hf.later (bel1 w o)⟩
  have HN : Hid (Nf F vb ∧ Nf F vl ∧ Nf F vf) := ⟨nb, nl, nf⟩
  have HG : Hid (t.good) := g
  have HG2 : Hid (t.b.length ≤ 2000000 ∧ t.l.length ≤ 2000000 ∧ t.f.length ≤ 2000000) := g2
  obtain ⟨k, hk⟩ : ∃ k, t.k = k := ⟨_, rfl⟩
  have HT : Hid (t.k = k) := hk
  rw [hk]
  clear hW hb hl hf nb nl nf g g2 hk
  rcases kinds k with rfl | rfl | rfl | rfl | rfl | rfl | hk
  · have HP : Hid (putT t s = pt s (enU t.u)) := by
      show _ = _
      rw [putT_in (by rw [HT.out]; omega) (by rw [HT.out]; omega), form_1 HT.out]
    rw [HP.out]
    go_enter Try.func11, Try.ntmps11
    go_wp2_with fail
    refine (V.wuint _ p F s _ (H1.out _).1 HG.out.u).mono ?_
    rintro e w1 ⟨rfl, hA⟩
    have HA := hidI (Af.pre (bel1 w _) hA)
    clear hA H1
    go_wp2
    go_end0
    exact ⟨rfl, HA.out⟩
  · have HP : Hid (putT t s = pt s (enI t.n)) := by
      show _ = _
      rw [putT_in (by rw [HT.out]; omega) (by rw [HT.out]; omega), form_2 HT.out]
    rw [HP.out]
    go_enter Try.func11, Try.ntmps11
    go_wp2_with fail
    refine (V.wint _ p F s _ (H1.out _).1 HG.out.n).mono ?_
    rintro e w1 ⟨rfl, hA⟩
    have HA := hidI (Af.pre (bel1 w _) hA)
    clear hA H1
    go_wp2
    go_end0
    exact ⟨rfl, HA.out⟩
  · have HP : Hid (putT t s = pt s (enF t.x)) := by
      show _ = _
      rw [putT_in (by rw [HT.out]; omega) (by rw [HT.out]; omega), form_3 HT.out]
    rw [HP.out]
    go_enter Try.func11, Try.ntmps11
    go_wp2_with fail
    refine (V.wfix _ p F s _ (H1.out _).1 HG.out.x).mono ?_
    rintro e w1 ⟨rfl, hA⟩
    have HA := hidI (Af.pre (bel1 w _) hA)
    clear hA H1
    go_wp2
    go_end0
    exact ⟨rfl, HA.out⟩
  · have HP : Hid (putT t s = pt s (enB t.b)) := by
      show _ = _
      rw [putT_in (by rw [HT.out]; omega) (by rw [HT.out]; omega), form_4 HT.out]
    rw [HP.out]
    go_enter Try.func11, Try.ntmps11
    go_wp2_with fail
    refine (V.wbytes _ p F s _ _ (H1.out _).1 (H1.out _).2.1 HN.out.1 HG.out.b HG2.out.1).mono ?_
    rintro e w1 ⟨rfl, hA⟩
    have HA := hidI (Af.pre (bel1 w _) hA)
    clear hA H1
    go_wp2
    go_end0
    exact ⟨rfl, HA.out⟩
  · have HP : Hid (putT t s = pt s (enIs t.l)) := by
      show _ = _
      rw [putT_in (by rw [HT.out]; omega) (by rw [HT.out]; omega), form_5 HT.out]
    rw [HP.out]
    go_enter Try.func11, Try.ntmps11
    go_wp2_with fail
    refine (V.wints _ p F s _ _ (H1.out _).1 (H1.out _).2.2.1 HN.out.2.1 HG.out.l HG2.out.2.1).mono ?_
    rintro e w1 ⟨rfl, hA⟩
    have HA := hidI (Af.pre (bel1 w _) hA)
    clear hA H1
    go_wp2
    go_end0
    exact ⟨rfl, HA.out⟩
  · have HP : Hid (putT t s = pt s (enFs t.f)) := by
      show _ = _
      rw [putT_in (by rw [HT.out]; omega) (by rw [HT.out]; omega), form_6 HT.out]
    rw [HP.out]
    go_enter Try.func11, Try.ntmps11
    go_wp2_with fail
    refine (V.wfixes _ p F s _ _ (H1.out _).1 (H1.out _).2.2.2 HN.out.2.2 HG.out.f HG2.out.2.2).mono ?_
    rintro e w1 ⟨rfl, hA⟩
    have HA := hidI (Af.pre (bel1 w _) hA)
    clear hA H1
    go_wp2
    go_end0
    exact ⟨rfl, HA.out⟩
  · obtain ⟨k1, k2, k3, k4, k5, k6⟩ := hk
    have HP : Hid (putT t s = s) := putT_out (by rw [HT.out]; omega) s
    have HA : Hid (∀ o : Obj, Af V.Wt p F s w (w.alloc o)) := fun o => ⟨F, (H1.out o).1, fun k hk => Or.inl hk, Kp.of (bel1 w o)⟩
    rw [HP.out]
    clear H1 HP
    go_enter Try.func11, Try.ntmps11
    go_wp2
    go_end0
    exact ⟨rfl, HA.out _⟩
end Go.Proofs.Ytahbpegjdmblaaa
