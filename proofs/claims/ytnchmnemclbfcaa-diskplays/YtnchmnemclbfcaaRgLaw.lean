/-
  A range over a function that tells things which lie in memory: what such a function promises (Tells), and the loop over it.
-/
import Derived.Test.YtnchmnemclbfcaaPkBase
import Derived.RangeFuncNested
import Derived.RangeFuncLeaves
set_option linter.unusedVariables false
set_option linter.unusedSimpArgs false
namespace Go.Proofs.Ytnchmnemclbfcaa
open Go.RowKit

/-- A function tells ys, one by one: each as arguments that say it in the memory as it is then (E). Between two of them all blocks are kept but those that the body may write (FB) and the loop's own record. -/
def Tells {β : Type} (F : Fence) (n : Nat) (P : Program) (g : Nat) (lb : Array Value) (ys : List β) (E : β → Array Value → World → Prop) (FB : Nat → Prop) (w : World) : Prop :=
  ∀ (l : Nat) (J Jx : Nat → World → Prop) (W : World), Below w.heap.size w W → w.heap.size ≤ l → l < W.heap.size →
    (∀ i X X' (F : Nat → Prop), J i X → (∀ k, F k → W.heap.size ≤ k) → Kp F X X' → J i X') → (∀ i X X' (F : Nat → Prop), Jx i X → (∀ k, F k → W.heap.size ≤ k) → Kp F X X' → Jx i X') →
    (∀ i y args X, ys[i]? = some y → J i X → E y args X → YieldAt F (n - 1) P l args X fun e X' =>
      (e = .returned (.bool true) ∧ J (i + 1) X' ∧ Kp (fun k => FB k ∨ k = l) X X') ∨ (e = .returned (.bool false) ∧ Jx (i + 1) X' ∧ ∃ FC : Nat → Prop, (∀ k, FC k → k < w.heap.size) ∧ Kp (fun k => FC k ∨ k = l) X X')) →
    J 0 W →
    CallsIn F n P g (#[.func (.yield l) #[] #[]] ++ lb) W fun e W' => (∃ v, e = .returned v) ∧ (J ys.length W' ∨ ∃ i, i ≤ ys.length ∧ Jx i W')
/-- How a round's body ends: the loop goes on, or is left. -/
def RoundEnd (FB FC : Nat → Prop) (I : Nat → World → Prop) (Ir : Code → Nat → World → Prop) (i : Nat) (X : World) : Exit → Act → World → Prop
  | .normal, _, X' => I (i + 1) X' ∧ Kp FB X X'
  | .ret, _, X' => Ir .ret (i + 1) X' ∧ Kp FC X X'
  | .exit id, _, X' => Ir (.exit id) (i + 1) X' ∧ Kp FC X X'
  | .goto t, _, X' => Ir (.goto t) (i + 1) X' ∧ Kp FC X X'
  | .panic _, _, _ => False
  | .outgrown, _, _ => False
theorem kp_put (X : World) (l : Nat) (o : Obj) : Kp (fun k => k = l) X (X.putObj l o) :=
  ⟨rfl, rfl, rfl, by simp, fun k _ hn => World.putObj_heap_other hn⟩
theorem kp_up {F G : Nat → Prop} {a b : World} (h : Kp F a b) (hG : ∀ k, F k → G k) : Kp G a b := h.mono hG
/-- The loop's record. -/
def lrec (fn : FuncId) (a : Act) (ps : Array Tmp) (assign body : Code) (D : Nat) (st : LoopState) (pe : Option Code) : Loop := { state := st, pending := pe, fn := fn, tmps := a.tmps, params := ps, assign := assign, body := body, defers := D }
theorem range_told {β : Type} {F : Fence} {n : Nat} {P : Program} {g : Operand} {ps : Array Tmp} {assign body : Code} {Q : Exit → Act → World → Prop} {a : Act} {w : World}
    (hro : F.round = none) (h1 : 1 ≤ n) {gf : Nat} {lb : Array Value} (hg : a.eval g = .func (.func gf) #[] lb) (hFg : F.fn gf) (eg : ∀ args w, (callFunc gf args).run P w = .ok (.enter gf args) w)
    {ys : List β} {E : β → Array Value → World → Prop} {FB : Nat → Prop} (hseq : Tells F (n - 1) P gf lb ys E FB w) (hps : ∀ y args X, E y args X → args.size = ps.size) (hFB : ∀ k, FB k → k < w.heap.size) (FC : Nat → Prop) (hFC : ∀ k, FC k → k < w.heap.size)
    (I : Nat → World → Prop) (Ir : Code → Nat → World → Prop) (Pre : Nat → Act → World → Prop)
    (hI : ∀ i X X' (G : Nat → Prop), I i X → (∀ k, G k → w.heap.size + 1 ≤ k) → Kp G X X' → I i X') (hIr : ∀ c i X X' (G : Nat → Prop), Ir c i X → (∀ k, G k → w.heap.size + 1 ≤ k) → Kp G X X' → Ir c i X')
    (hPre : ∀ i a' X X', Pre i a' X → Kp (fun k => k = w.heap.size + 1) X X' → Pre i a' X') (h0 : I 0 w)
    (hassign : ∀ i y args X, ys[i]? = some y → I i X → E y args X → w.heap.size + 2 ≤ X.heap.size → (∀ o, X.cell? ⟨w.heap.size + 1, o, none⟩ = none) →
      assign.wpIn (F.inRound (w.heap.size + 1)) (n - 1 - 1) P (Exit.then (fun a' X' => Pre i a' X' ∧ Kp FB X X') (fun _ _ _ => False)) { tmps := (ps.zip args).foldl (fun t (p, v) => t.setIfInBounds p v) a.tmps, defers := [] } X)
    (hbody : ∀ i y a' X, ys[i]? = some y → Pre i a' X → w.heap.size + 2 ≤ X.heap.size → body.wpIn (F.inRound (w.heap.size + 1)) (n - 1 - 1) P (RoundEnd FB FC I Ir i X) a' X)
    (hdone : ∀ X, I ys.length X → X.heap[w.heap.size]? = some (.deferred (some [])) → Q .normal { a with defers := { target := .collected w.heap.size, args := #[] } :: a.defers } X)
    (hleft : ∀ c i X, i ≤ ys.length → Ir c i X → X.heap[w.heap.size]? = some (.deferred (some [])) → c.wpIn F n P Q { a with defers := { target := .collected w.heap.size, args := #[] } :: a.defers } X) :
    (Code.rangeFunc g ps assign body).wpIn F n P Q a w := by
  refine wpIn_rangeFunc fun fn hfn => ?_
  rw [hro]
  obtain ⟨R, hR⟩ : ∃ R : LoopState → Option Code → Loop, R = lrec fn a ps assign body w.heap.size := ⟨_, rfl⟩
  obtain ⟨Z, hZ⟩ : ∃ Z, Z = (w.alloc (.deferred (some []))).alloc (.loop (R .ready none)) := ⟨_, rfl⟩
  have he : (Instr.enterLoop fn a.tmps ps assign body none).run P w = .ok (w.heap.size + 1, [{ target := .collected w.heap.size, args := #[] }]) Z := by
    rw [hZ, hR]
    exact run_enterLoop_outer _ _ _ _ _
  have hB : Below w.heap.size w Z := by rw [hZ]; exact bel2 _ _ _
  have hZs : Z.heap.size = w.heap.size + 2 := by rw [hZ, World.size_alloc, World.size_alloc]
  have hZl : Z.heap[w.heap.size + 1]? = some (.loop (R .ready none)) := by
    rw [hZ]
    have := World.alloc_heap_new (w.alloc (.deferred (some []))) (.loop (R .ready none))
    rwa [World.size_alloc] at this
  have hZd : Z.heap[w.heap.size]? = some (.deferred (some [])) := by
    rw [hZ]
    exact (Below.heap_alloc _ _ _ (by simp)).trans (World.alloc_heap_new w _)
  refine ⟨w.heap.size + 1, [{ target := .collected w.heap.size, args := #[] }], Z, { target := .fn (.func gf) lb, args := #[.func (.yield (w.heap.size + 1)) #[] #[]] }, Z, gf, #[.func (.yield (w.heap.size + 1)) #[] #[]] ++ lb, Z, he, ?_, ?_, ?_, fun _ => h1, ?_⟩
  · simp only [resolve, hg]
    simp [go_sem]
  · intro f' hf'
    simp [Target.leads] at hf'
    subst hf'
    exact hFg
  · simp [invoke, go_sem, eg]
  clear he hZ
  have hI1 : ∀ i X (o : Obj), I i X → I i (X.putObj (w.heap.size + 1) o) := fun i X o h => hI i X _ _ h (fun k hk => by omega) (kp_put X (w.heap.size + 1) o)
  have hIr1 : ∀ c i X (o : Obj), Ir c i X → Ir c i (X.putObj (w.heap.size + 1) o) := fun c i X o h => hIr c i X _ _ h (fun k hk => by omega) (kp_put X (w.heap.size + 1) o)
  refine (hseq (w.heap.size + 1) (fun i X => I i X ∧ X.heap[w.heap.size + 1]? = some (.loop (R .ready none)) ∧ X.heap[w.heap.size]? = some (.deferred (some [])))
    (fun i X => ∃ c, Ir c i X ∧ X.heap[w.heap.size + 1]? = some (.loop (R .done (some c))) ∧ X.heap[w.heap.size]? = some (.deferred (some []))) Z hB (by omega) (by omega) ?_ ?_ ?_ ⟨hI 0 w Z (fun _ => False) h0 (fun _ h => h.elim) (Kp.of hB), hZl, hZd⟩).mono ?_
  · rintro i A B G ⟨x1, x2, x3⟩ hG hAB
    exact ⟨hI i A B G x1 (fun k hk => by have := hG k hk; omega) hAB, (hAB.block _ (Array.getElem?_eq_some_iff.1 x2).1 (fun q => by have := hG _ q; omega)).trans x2, (hAB.block _ (Array.getElem?_eq_some_iff.1 x3).1 (fun q => by have := hG _ q; omega)).trans x3⟩
  · rintro i A B G ⟨c, x1, x2, x3⟩ hG hAB
    exact ⟨c, hIr c i A B G x1 (fun k hk => by have := hG k hk; omega) hAB, (hAB.block _ (Array.getElem?_eq_some_iff.1 x2).1 (fun q => by have := hG _ q; omega)).trans x2, (hAB.block _ (Array.getElem?_eq_some_iff.1 x3).1 (fun q => by have := hG _ q; omega)).trans x3⟩
  · rintro i y args X hy ⟨x1, x2, x3⟩ hE
    have s1 : w.heap.size + 1 < X.heap.size := (Array.getElem?_eq_some_iff.1 x2).1
    have hyd := run_yield (P := P) (args := args) x2 (by rw [hR]; exact hps y args X hE)
    rw [hR] at hyd
    refine ⟨fn, _, assign, body, hyd, roundIn_of_wpIn hfn (wpIn_mono (hassign i y args X hy x1 hE (by omega) (fun o => by simp [World.cell?, x2])) ?_)⟩
    clear hyd
    intro e a' X1 h
    cases e with
    | normal =>
      obtain ⟨p1, k1⟩ := h
      have k1b : ∀ k, k = w.heap.size + 1 ∨ k = w.heap.size → X1.heap[k]? = X.heap[k]? := fun k hk => k1.block k (by omega) (fun q => by have := hFB k q; omega)
      have y2 := (k1b _ (Or.inl rfl)).trans x2
      have y3 := (k1b _ (Or.inr rfl)).trans x3
      have s2 : w.heap.size + 1 < X1.heap.size := (Array.getElem?_eq_some_iff.1 y2).1
      refine ⟨_, run_beginRound y2 (by rw [hR]; rfl), ?_⟩
      refine wpIn_mono (hbody i y a' _ hy (hPre i a' _ _ p1 (kp_put _ _ _)) (by rw [World.putObj_size]; omega)) ?_
      -- how the round ends, wherever it goes
      have fin : ∀ (G : Nat → Prop) (jump : Option Code) (X3 : World), (∀ k, G k → k < w.heap.size) → Kp G (X1.putObj (w.heap.size + 1) (.loop { R .ready none with state := .busy })) X3 →
          (Instr.endRound (w.heap.size + 1) jump).run P X3 = .ok (.bool jump.isNone) (X3.putObj (w.heap.size + 1) (.loop (R (if jump.isNone then .ready else .done) jump))) ∧
          (X3.putObj (w.heap.size + 1) (.loop (R (if jump.isNone then .ready else .done) jump))).heap[w.heap.size + 1]? = some (.loop (R (if jump.isNone then .ready else .done) jump)) ∧
          (X3.putObj (w.heap.size + 1) (.loop (R (if jump.isNone then .ready else .done) jump))).heap[w.heap.size]? = some (.deferred (some [])) := by
        intro G jump X3 hG k3
        have z2 : X3.heap[w.heap.size + 1]? = some (.loop { R .ready none with state := .busy }) :=
          (k3.block _ (by rw [World.putObj_size]; exact s2) (fun q => by have := hG _ q; omega)).trans (World.putObj_heap_same s2)
        have z3 : X3.heap[w.heap.size]? = some (.deferred (some [])) :=
          (k3.block _ (by rw [World.putObj_size]; omega) (fun q => by have := hG _ q; omega)).trans ((World.putObj_heap_other (by omega)).trans y3)
        have s3 : w.heap.size + 1 < X3.heap.size := (Array.getElem?_eq_some_iff.1 z2).1
        have hr := run_endRound (P := P) jump z2
        refine ⟨?_, World.putObj_heap_same s3, (World.putObj_heap_other (by omega)).trans z3⟩
        rw [hR] at hr ⊢
        exact hr
      have keptC : ∀ (X3 : World) (o : Obj), Kp FC (X1.putObj (w.heap.size + 1) (.loop { R .ready none with state := .busy })) X3 → Kp (fun k => (FC k ∨ FB k) ∨ k = w.heap.size + 1) X (X3.putObj (w.heap.size + 1) o) := by
        intro X3 o k3
        have q1 : Kp (fun k => (FC k ∨ FB k) ∨ k = w.heap.size + 1) X X1 := k1.mono (fun k h => Or.inl (Or.inr h))
        have q2 := q1.trans (kp_put X1 (w.heap.size + 1) (.loop { R .ready none with state := .busy })) (fun k h => Or.inl (Or.inr h))
        have q3 := q2.trans k3 (fun k h => Or.inl (Or.inl (Or.inl h)))
        exact q3.trans (kp_put X3 (w.heap.size + 1) _) (fun k h => Or.inl (Or.inr h))
      have hFCB : ∀ k, FC k ∨ FB k → k < w.heap.size := fun k h => h.elim (hFC k) (hFB k)
      have kept : ∀ (X3 : World) (o : Obj), Kp FB (X1.putObj (w.heap.size + 1) (.loop { R .ready none with state := .busy })) X3 → Kp (fun k => FB k ∨ k = w.heap.size + 1) X (X3.putObj (w.heap.size + 1) o) := by
        intro X3 o k3
        have q1 : Kp (fun k => FB k ∨ k = w.heap.size + 1) X X1 := k1.mono (fun k h => Or.inl h)
        have q2 := q1.trans (kp_put X1 (w.heap.size + 1) (.loop { R .ready none with state := .busy })) (fun k h => Or.inl (Or.inr h))
        have q3 := q2.trans k3 (fun k h => Or.inl (Or.inl h))
        exact q3.trans (kp_put X3 (w.heap.size + 1) _) (fun k h => Or.inl (Or.inr h))
      intro e a3 X3 h3
      cases e with
      | normal =>
        obtain ⟨j1, j2⟩ := h3
        obtain ⟨f1, f2, f3⟩ := fin FB none X3 hFB j2
        exact ⟨_, _, f1, Or.inl ⟨rfl, ⟨hI1 _ _ _ j1, f2, f3⟩, kept _ _ j2⟩⟩
      | ret =>
        obtain ⟨j1, j2⟩ := h3
        obtain ⟨f1, f2, f3⟩ := fin FC (some .ret) X3 hFC j2
        exact ⟨_, _, f1, Or.inr ⟨rfl, ⟨.ret, hIr1 _ _ _ _ j1, f2, f3⟩, _, hFCB, keptC _ _ j2⟩⟩
      | exit id =>
        obtain ⟨j1, j2⟩ := h3
        obtain ⟨f1, f2, f3⟩ := fin FC (some (.exit id)) X3 hFC j2
        exact ⟨_, _, f1, Or.inr ⟨rfl, ⟨.exit id, hIr1 _ _ _ _ j1, f2, f3⟩, _, hFCB, keptC _ _ j2⟩⟩
      | goto t =>
        obtain ⟨j1, j2⟩ := h3
        obtain ⟨f1, f2, f3⟩ := fin FC (some (.goto t)) X3 hFC j2
        exact ⟨_, _, f1, Or.inr ⟨rfl, ⟨.goto t, hIr1 _ _ _ _ j1, f2, f3⟩, _, hFCB, keptC _ _ j2⟩⟩
      | panic ch => exact h3.elim
      | outgrown => exact h3.elim
    | ret => exact h.elim
    | exit id => exact h.elim
    | goto t => exact h.elim
    | panic ch => exact h.elim
    | outgrown => exact h.elim
  · rintro e X ⟨⟨v, rfl⟩, ⟨x1, x2, x3⟩ | ⟨i, hi, c, x1, x2, x3⟩⟩
    · refine ⟨none, X.putObj (w.heap.size + 1) (.loop { R .ready none with state := .exhausted }), ?_, hdone _ (hI1 _ _ _ x1) ((World.putObj_heap_other (by omega)).trans x3)⟩
      have := run_endLoop (P := P) x2 (by rw [hR]; simp [lrec])
      rw [hR] at this ⊢
      exact this
    · refine ⟨some c, X.putObj (w.heap.size + 1) (.loop { R .done (some c) with state := .exhausted }), ?_, hleft c i _ hi (hIr1 _ _ _ _ x1) ((World.putObj_heap_other (by omega)).trans x3)⟩
      have := run_endLoop (P := P) x2 (by rw [hR]; simp [lrec])
      rw [hR] at this ⊢
      exact this
end Go.Proofs.Ytnchmnemclbfcaa
