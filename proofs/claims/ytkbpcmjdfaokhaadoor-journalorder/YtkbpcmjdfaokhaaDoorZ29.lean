/-
A range over a function that tells things which lie in memory: what such a function promises (Tells), and the loop over it.
A range over a function that keeps nothing of its own between two rounds (Tells0): the body may write whatever is newer than the loop; what is told lies in memory newer than the last round's end.
-/
import Derived.Test.YtkbpcmjdfaokhaaDoorZ04
import Derived.RangeFuncNested
import Derived.RangeFuncLeaves

set_option linter.unusedVariables false
set_option linter.unusedSimpArgs false
namespace Go.Proofs.YtkbpcmjdfaokhaaDoor
open Go.RowKit

/-- A function tells ys, one by one: each as arguments that say it in the memory as it is then (E). Between two of them all blocks are kept but those that the body may write (FB) and the loop's own record. -/
def Tells {β : Type} (F : Fence) (n : Nat) (P : Program) (g : Nat) (lb : Array Value) (ys : List β) (E : β → Array Value → World → Prop) (FB : Nat → Prop) (w : World) : Prop :=
  ∀ (l : Nat) (J Jx : Nat → World → Prop) (W : World), Below w.heap.size w W → w.heap.size ≤ l → l < W.heap.size →
    (∀ i X X' (F : Nat → Prop), J i X → (∀ k, F k → W.heap.size ≤ k) → Kp F X X' → J i X') → (∀ i X X' (F : Nat → Prop), Jx i X → (∀ k, F k → W.heap.size ≤ k) → Kp F X X' → Jx i X') →
    (∀ i y args X, ys[i]? = some y → J i X → E y args X → YieldAt F (n - 1) P l args X fun e X' =>
      (e = .returned (.bool true) ∧ J (i + 1) X' ∧ Kp (fun k => FB k ∨ k = l) X X') ∨ (e = .returned (.bool false) ∧ Jx (i + 1) X' ∧ ∃ FC : Nat → Prop, (∀ k, FC k → k < w.heap.size) ∧ Kp (fun k => FC k ∨ k = l) X X')) →
    J 0 W →
    CallsIn F n P g (#[.func (.yield l) #[] #[]] ++ lb) W fun e W' => (∃ v, e = .returned v) ∧ (J ys.length W' ∨ ∃ i, i ≤ ys.length ∧ Jx i W')
/-- How a round's body ends: the loop goes on, or is left. -/
def RoundEnd (FB FC : Nat → Prop) (I : Nat → World → Prop) (Ir : Code → Nat → World → Prop) (i : Nat) (X : World) : Exit → Act → World → Prop
  | .normal, _, X' => I (i + 1) X' ∧ Kp FB X X'
  | .ret, _, X' => Ir .ret (i + 1) X' ∧ Kp FC X X'
  | .exit id, _, X' => Ir (.exit id) (i + 1) X' ∧ Kp FC X X'
  | .goto t, _, X' => Ir (.goto t) (i + 1) X' ∧ Kp FC X X'
  | .panic _, _, _ => False
  | .outgrown, _, _ => False
theorem kp_put (X : World) (l : Nat) (o : Obj) : Kp (fun k => k = l) X (X.putObj l o) :=
  ⟨rfl, rfl, rfl, by simp, fun k _ hn => World.putObj_heap_other hn⟩
theorem kp_up {F G : Nat → Prop} {a b : World} (h : Kp F a b) (hG : ∀ k, F k → G k) : Kp G a b := h.mono hG
/-- The loop's record. -/
def lrec (fn : FuncId) (a : Act) (ps : Array Tmp) (assign body : Code) (D : Nat) (st : LoopState) (pe : Option Code) : Loop := { state := st, pending := pe, fn := fn, tmps := a.tmps, params := ps, assign := assign, body := body, defers := D }
theorem range_told {β : Type} {F : Fence} {n : Nat} {P : Program} {g : Operand} {ps : Array Tmp} {assign body : Code} {Q : Exit → Act → World → Prop} {a : Act} {w : World}
    (hro : F.round = none) (h1 : 1 ≤ n) {gf : Nat} {lb : Array Value} (hg : a.eval g = .func (.func gf) #[] lb) (hFg : F.fn gf) (eg : ∀ args w, (callFunc gf args).run P w = .ok (.enter gf args) w)
    {ys : List β} {E : β → Array Value → World → Prop} {FB : Nat → Prop} (hseq : Tells F (n - 1) P gf lb ys E FB w) (hps : ∀ y args X, E y args X → args.size = ps.size) (hFB : ∀ k, FB k → k < w.heap.size) (FC : Nat → Prop) (hFC : ∀ k, FC k → k < w.heap.size)
    (I : Nat → World → Prop) (Ir : Code → Nat → World → Prop) (Pre : Nat → Act → World → Prop)
    (hI : ∀ i X X' (G : Nat → Prop), I i X → (∀ k, G k → w.heap.size + 1 ≤ k) → Kp G X X' → I i X') (hIr : ∀ c i X X' (G : Nat → Prop), Ir c i X → (∀ k, G k → w.heap.size + 1 ≤ k) → Kp G X X' → Ir c i X')
    (hPre : ∀ i a' X X', Pre i a' X → Kp (fun k => k = w.heap.size + 1) X X' → Pre i a' X') (h0 : I 0 w)
    (hassign : ∀ i y args X, ys[i]? = some y → I i X → E y args X → w.heap.size + 2 ≤ X.heap.size → (∀ o, X.cell? ⟨w.heap.size + 1, o, none⟩ = none) →
      assign.wpIn (F.inRound (w.heap.size + 1)) (n - 1 - 1) P (Exit.then (fun a' X' => Pre i a' X' ∧ Kp FB X X') (fun _ _ _ => False)) { tmps := (ps.zip args).foldl (fun t (p, v) => t.setIfInBounds p v) a.tmps, defers := [] } X)
    (hbody : ∀ i y a' X, ys[i]? = some y → Pre i a' X → w.heap.size + 2 ≤ X.heap.size → body.wpIn (F.inRound (w.heap.size + 1)) (n - 1 - 1) P (RoundEnd FB FC I Ir i X) a' X)
    (hdone : ∀ X, I ys.length X → X.heap[w.heap.size]? = some (.deferred (some [])) → Q .normal { a with defers := { target := .collected w.heap.size, args := #[] } :: a.defers } X)
    (hleft : ∀ c i X, i ≤ ys.length → Ir c i X → X.heap[w.heap.size]? = some (.deferred (some [])) → c.wpIn F n P Q { a with defers := { target := .collected w.heap.size, args := #[] } :: a.defers } X) :
    (Code.rangeFunc g ps assign body).wpIn F n P Q a w := by
  refine wpIn_rangeFunc fun fn hfn => ?_
  rw [hro]
  obtain ⟨R, hR⟩ : ∃ R : LoopState → Option Code → Loop, R = lrec fn a ps assign body w.heap.size := ⟨_, rfl⟩
  obtain ⟨Z, hZ⟩ : ∃ Z, Z = (w.alloc (.deferred (some []))).alloc (.loop (R .ready none)) := ⟨_, rfl⟩
  have he : (Instr.enterLoop fn a.tmps ps assign body none).run P w = .ok (w.heap.size + 1, [{ target := .collected w.heap.size, args := #[] }]) Z := by
    rw [hZ, hR]
    exact run_enterLoop_outer _ _ _ _ _
  have hB : Below w.heap.size w Z := by rw [hZ]; exact bel2 _ _ _
  have hZs : Z.heap.size = w.heap.size + 2 := by rw [hZ, World.size_alloc, World.size_alloc]
  have hZl : Z.heap[w.heap.size + 1]? = some (.loop (R .ready none)) := by
    rw [hZ]
    have := World.alloc_heap_new (w.alloc (.deferred (some []))) (.loop (R .ready none))
    rwa [World.size_alloc] at this
  have hZd : Z.heap[w.heap.size]? = some (.deferred (some [])) := by
    rw [hZ]
    exact (Below.heap_alloc _ _ _ (by simp)).trans (World.alloc_heap_new w _)
  refine ⟨w.heap.size + 1, [{ target := .collected w.heap.size, args := #[] }], Z, { target := .fn (.func gf) lb, args := #[.func (.yield (w.heap.size + 1)) #[] #[]] }, Z, gf, #[.func (.yield (w.heap.size + 1)) #[] #[]] ++ lb, Z, he, ?_, ?_, ?_, fun _ => h1, ?_⟩
  · simp only [resolve, hg]
    simp [go_sem]
  · intro f' hf'
    simp [Target.leads] at hf'
    subst hf'
    exact hFg
  · simp [invoke, go_sem, eg]
  clear he hZ
  have hI1 : ∀ i X (o : Obj), I i X → I i (X.putObj (w.heap.size + 1) o) := fun i X o h => hI i X _ _ h (fun k hk => by omega) (kp_put X (w.heap.size + 1) o)
  have hIr1 : ∀ c i X (o : Obj), Ir c i X → Ir c i (X.putObj (w.heap.size + 1) o) := fun c i X o h => hIr c i X _ _ h (fun k hk => by omega) (kp_put X (w.heap.size + 1) o)
  refine (hseq (w.heap.size + 1) (fun i X => I i X ∧ X.heap[w.heap.size + 1]? = some (.loop (R .ready none)) ∧ X.heap[w.heap.size]? = some (.deferred (some [])))
    (fun i X => ∃ c, Ir c i X ∧ X.heap[w.heap.size + 1]? = some (.loop (R .done (some c))) ∧ X.heap[w.heap.size]? = some (.deferred (some []))) Z hB (by omega) (by omega) ?_ ?_ ?_ ⟨hI 0 w Z (fun _ => False) h0 (fun _ h => h.elim) (Kp.of hB), hZl, hZd⟩).mono ?_
  · rintro i A B G ⟨x1, x2, x3⟩ hG hAB
    exact ⟨hI i A B G x1 (fun k hk => by have := hG k hk; omega) hAB, (hAB.block _ (Array.getElem?_eq_some_iff.1 x2).1 (fun q => by have := hG _ q; omega)).trans x2, (hAB.block _ (Array.getElem?_eq_some_iff.1 x3).1 (fun q => by have := hG _ q; omega)).trans x3⟩
  · rintro i A B G ⟨c, x1, x2, x3⟩ hG hAB
    exact ⟨c, hIr c i A B G x1 (fun k hk => by have := hG k hk; omega) hAB, (hAB.block _ (Array.getElem?_eq_some_iff.1 x2).1 (fun q => by have := hG _ q; omega)).trans x2, (hAB.block _ (Array.getElem?_eq_some_iff.1 x3).1 (fun q => by have := hG _ q; omega)).trans x3⟩
  · rintro i y args X hy ⟨x1, x2, x3⟩ hE
    have s1 : w.heap.size + 1 < X.heap.size := (Array.getElem?_eq_some_iff.1 x2).1
    have hyd := run_yield (P := P) (args := args) x2 (by rw [hR]; exact hps y args X hE)
    rw [hR] at hyd
    refine ⟨fn, _, assign, body, hyd, roundIn_of_wpIn hfn (wpIn_mono (hassign i y args X hy x1 hE (by omega) (fun o => by simp [World.cell?, x2])) ?_)⟩
    clear hyd
    intro e a' X1 h
    cases e with
    | normal =>
      obtain ⟨p1, k1⟩ := h
      have k1b : ∀ k, k = w.heap.size + 1 ∨ k = w.heap.size → X1.heap[k]? = X.heap[k]? := fun k hk => k1.block k (by omega) (fun q => by have := hFB k q; omega)
      have y2 := (k1b _ (Or.inl rfl)).trans x2
      have y3 := (k1b _ (Or.inr rfl)).trans x3
      have s2 : w.heap.size + 1 < X1.heap.size := (Array.getElem?_eq_some_iff.1 y2).1
      refine ⟨_, run_beginRound y2 (by rw [hR]; rfl), ?_⟩
      refine wpIn_mono (hbody i y a' _ hy (hPre i a' _ _ p1 (kp_put _ _ _)) (by rw [World.putObj_size]; omega)) ?_
      -- how the round ends, wherever it goes
      have fin : ∀ (G : Nat → Prop) (jump : Option Code) (X3 : World), (∀ k, G k → k < w.heap.size) → Kp G (X1.putObj (w.heap.size + 1) (.loop { R .ready none with state := .busy })) X3 →
          (Instr.endRound (w.heap.size + 1) jump).run P X3 = .ok (.bool jump.isNone) (X3.putObj (w.heap.size + 1) (.loop (R (if jump.isNone then .ready else .done) jump))) ∧
          (X3.putObj (w.heap.size + 1) (.loop (R (if jump.isNone then .ready else .done) jump))).heap[w.heap.size + 1]? = some (.loop (R (if jump.isNone then .ready else .done) jump)) ∧
          (X3.putObj (w.heap.size + 1) (.loop (R (if jump.isNone then .ready else .done) jump))).heap[w.heap.size]? = some (.deferred (some [])) := by
        intro G jump X3 hG k3
        have z2 : X3.heap[w.heap.size + 1]? = some (.loop { R .ready none with state := .busy }) :=
          (k3.block _ (by rw [World.putObj_size]; exact s2) (fun q => by have := hG _ q; omega)).trans (World.putObj_heap_same s2)
        have z3 : X3.heap[w.heap.size]? = some (.deferred (some [])) :=
          (k3.block _ (by rw [World.putObj_size]; omega) (fun q => by have := hG _ q; omega)).trans ((World.putObj_heap_other (by omega)).trans y3)
        have s3 : w.heap.size + 1 < X3.heap.size := (Array.getElem?_eq_some_iff.1 z2).1
        have hr := run_endRound (P := P) jump z2
        refine ⟨?_, World.putObj_heap_same s3, (World.putObj_heap_other (by omega)).trans z3⟩
        rw [hR] at hr ⊢
        exact hr
      have keptC : ∀ (X3 : World) (o : Obj), Kp FC (X1.putObj (w.heap.size + 1) (.loop { R .ready none with state := .busy })) X3 → Kp (fun k => (FC k ∨ FB k) ∨ k = w.heap.size + 1) X (X3.putObj (w.heap.size + 1) o) := by
        intro X3 o k3
        have q1 : Kp (fun k => (FC k ∨ FB k) ∨ k = w.heap.size + 1) X X1 := k1.mono (fun k h => Or.inl (Or.inr h))
        have q2 := q1.trans (kp_put X1 (w.heap.size + 1) (.loop { R .ready none with state := .busy })) (fun k h => Or.inl (Or.inr h))
        have q3 := q2.trans k3 (fun k h => Or.inl (Or.inl (Or.inl h)))
        exact q3.trans (kp_put X3 (w.heap.size + 1) _) (fun k h => Or.inl (Or.inr h))
      have hFCB : ∀ k, FC k ∨ FB k → k < w.heap.size := fun k h => h.elim (hFC k) (hFB k)
      have kept : ∀ (X3 : World) (o : Obj), Kp FB (X1.putObj (w.heap.size + 1) (.loop { R .ready none with state := .busy })) X3 → Kp (fun k => FB k ∨ k = w.heap.size + 1) X (X3.putObj (w.heap.size + 1) o) := by
        intro X3 o k3
        have q1 : Kp (fun k => FB k ∨ k = w.heap.size + 1) X X1 := k1.mono (fun k h => Or.inl h)
        have q2 := q1.trans (kp_put X1 (w.heap.size + 1) (.loop { R .ready none with state := .busy })) (fun k h => Or.inl (Or.inr h))
        have q3 := q2.trans k3 (fun k h => Or.inl (Or.inl h))
        exact q3.trans (kp_put X3 (w.heap.size + 1) _) (fun k h => Or.inl (Or.inr h))
      intro e a3 X3 h3
      cases e with
      | normal =>
        obtain ⟨j1, j2⟩ := h3
        obtain ⟨f1, f2, f3⟩ := fin FB none X3 hFB j2
        exact ⟨_, _, f1, Or.inl ⟨rfl, ⟨hI1 _ _ _ j1, f2, f3⟩, kept _ _ j2⟩⟩
      | ret =>
        obtain ⟨j1, j2⟩ := h3
        obtain ⟨f1, f2, f3⟩ := fin FC (some .ret) X3 hFC j2
        exact ⟨_, _, f1, Or.inr ⟨rfl, ⟨.ret, hIr1 _ _ _ _ j1, f2, f3⟩, _, hFCB, keptC _ _ j2⟩⟩
      | exit id =>
        obtain ⟨j1, j2⟩ := h3
        obtain ⟨f1, f2, f3⟩ := fin FC (some (.exit id)) X3 hFC j2
        exact ⟨_, _, f1, Or.inr ⟨rfl, ⟨.exit id, hIr1 _ _ _ _ j1, f2, f3⟩, _, hFCB, keptC _ _ j2⟩⟩
      | goto t =>
        obtain ⟨j1, j2⟩ := h3
        obtain ⟨f1, f2, f3⟩ := fin FC (some (.goto t)) X3 hFC j2
        exact ⟨_, _, f1, Or.inr ⟨rfl, ⟨.goto t, hIr1 _ _ _ _ j1, f2, f3⟩, _, hFCB, keptC _ _ j2⟩⟩
      | panic ch => exact h3.elim
      | outgrown => exact h3.elim
    | ret => exact h.elim
    | exit id => exact h.elim
    | goto t => exact h.elim
    | panic ch => exact h.elim
    | outgrown => exact h.elim
  · rintro e X ⟨⟨v, rfl⟩, ⟨x1, x2, x3⟩ | ⟨i, hi, c, x1, x2, x3⟩⟩
    · refine ⟨none, X.putObj (w.heap.size + 1) (.loop { R .ready none with state := .exhausted }), ?_, hdone _ (hI1 _ _ _ x1) ((World.putObj_heap_other (by omega)).trans x3)⟩
      have := run_endLoop (P := P) x2 (by rw [hR]; simp [lrec])
      rw [hR] at this ⊢
      exact this
    · refine ⟨some c, X.putObj (w.heap.size + 1) (.loop { R .done (some c) with state := .exhausted }), ?_, hleft c i _ hi (hIr1 _ _ _ _ x1) ((World.putObj_heap_other (by omega)).trans x3)⟩
      have := run_endLoop (P := P) x2 (by rw [hR]; simp [lrec])
      rw [hR] at this ⊢
      exact this
end Go.Proofs.YtkbpcmjdfaokhaaDoor
set_option linter.unusedVariables false
set_option linter.unusedSimpArgs false
namespace Go.Proofs.YtkbpcmjdfaokhaaDoor
open Go.RowKit

/-- The blocks below a place but some are as they were. -/
structure Kq (B : Nat) (F : Nat → Prop) (w w' : World) : Prop where
  os : w'.os = w.os
  tape : w'.tape = w.tape
  output : w'.output = w.output
  size : w.heap.size ≤ w'.heap.size
  block : ∀ k, k < B → k < w.heap.size → ¬ F k → w'.heap[k]? = w.heap[k]?
theorem Kq.of {B : Nat} {F : Nat → Prop} {w w' : World} (h : Kp F w w') : Kq B F w w' := ⟨h.os, h.tape, h.output, h.size, fun k _ hk hn => h.block k hk hn⟩
theorem Kq.below {B B' : Nat} {F : Nat → Prop} {w w' : World} (h : Below B' w w') (hB : B ≤ B') : Kq B F w w' := ⟨h.os, h.tape, h.output, h.size, fun k hk _ _ => h.block k (by omega)⟩
theorem Kq.mono {B B' : Nat} {F G : Nat → Prop} {w w' : World} (h : Kq B F w w') (hB : B' ≤ B) (hG : ∀ k, F k → G k) : Kq B' G w w' := ⟨h.os, h.tape, h.output, h.size, fun k hk hk2 hn => h.block k (by omega) hk2 (fun q => hn (hG k q))⟩
theorem Kq.trans {B : Nat} {F : Nat → Prop} {a b c : World} (h : Kq B F a b) (k : Kq B F b c) : Kq B F a c :=
  ⟨k.os.trans h.os, k.tape.trans h.tape, k.output.trans h.output, Nat.le_trans h.size k.size, fun i hi hi2 hn => (k.block i hi (Nat.lt_of_lt_of_le hi2 h.size) hn).trans (h.block i hi hi2 hn)⟩
theorem Kq.cell {B : Nat} {F : Nat → Prop} {w w' : World} (h : Kq B F w w') {a : Addr} {v : Value} (hB : a.block < B) (hn : ¬ F a.block) (hc : w.cell? a = some v) : w'.cell? a = some v :=
  (World.cell?_of_block (w := w) (h.block _ hB (World.block_lt_of_cell? _ _ hc) hn)).trans hc
theorem Kq.ls {B : Nat} {F : Nat → Prop} {w w' : World} (h : Kq B F w w') {v : Value} {n : Nat} {g : Nat → Value} (l : Ls w v n g) (hB : Lo B v) (hn : Nf F v) : Ls w' v n g := by
  obtain ⟨adr, cap, q, o, rfl, h2, h3, h4, h5⟩ := l
  refine ⟨adr, cap, q, o, rfl, h2, h3, h4, fun k hk => ?_⟩
  have e := h4 (by omega)
  subst e
  exact h.cell (a := ⟨q, o + k, none⟩) (hB ⟨q, o, none⟩ n cap rfl (by omega)) (hn ⟨q, o, none⟩ n cap rfl (by omega)) (h5 k hk)
theorem Kq.bs {B : Nat} {F : Nat → Prop} {w w' : World} (h : Kq B F w w') {v : Value} {l : List Nat} (hl : Bs w v l) (hB : Lo B v) (hn : Nf F v) : Bs w' v l := h.ls hl hB hn
/-- A function tells ys, one by one, each in memory that is newer than the world in which the last round ended; it abides whatever a round writes that is newer than the loop, or is one of FB. -/
def Tells0 {β : Type} (F : Fence) (n : Nat) (P : Program) (g : Nat) (lb : Array Value) (ys : List β) (E : β → Array Value → World → World → Prop) (FB : Nat → Prop) (w : World) : Prop :=
  ∀ (l : Nat) (J Jx : Nat → World → Prop) (W : World), Below w.heap.size w W → w.heap.size ≤ l → l < W.heap.size →
    (∀ i X X', J i X → Below X.heap.size X X' → J i X') → (∀ i X X', Jx i X → Below X.heap.size X X' → Jx i X') →
    (∀ i y args Xp X, ys[i]? = some y → J i Xp → Below Xp.heap.size Xp X → E y args Xp X → YieldAt F (n - 1) P l args X fun e X' =>
      (e = .returned (.bool true) ∧ J (i + 1) X' ∧ Kq w.heap.size FB X X') ∨ (e = .returned (.bool false) ∧ Jx (i + 1) X')) →
    J 0 W →
    CallsIn F n P g (#[.func (.yield l) #[] #[]] ++ lb) W fun e W' => (∃ v, e = .returned v) ∧ (J ys.length W' ∨ ∃ i, i ≤ ys.length ∧ Jx i W')
/-- How a round's body ends: the loop goes on, or is left. -/
def RoundEnd0 (B : Nat) (FB FC : Nat → Prop) (I : Nat → World → Prop) (Ir : Code → Nat → World → Prop) (i : Nat) (X : World) : Exit → Act → World → Prop
  | .normal, _, X' => I (i + 1) X' ∧ Kq B FB X X'
  | .ret, _, X' => Ir .ret (i + 1) X' ∧ Kq B FC X X'
  | .exit id, _, X' => Ir (.exit id) (i + 1) X' ∧ Kq B FC X X'
  | .goto t, _, X' => Ir (.goto t) (i + 1) X' ∧ Kq B FC X X'
  | .panic _, _, _ => False
  | .outgrown, _, _ => False
theorem range_told0 {β : Type} {F : Fence} {n : Nat} {P : Program} {g : Operand} {ps : Array Tmp} {assign body : Code} {Q : Exit → Act → World → Prop} {a : Act} {w : World}
    (hro : F.round = none) (h1 : 1 ≤ n) {gf : Nat} {lb : Array Value} (hg : a.eval g = .func (.func gf) #[] lb) (hFg : F.fn gf) (eg : ∀ args w, (callFunc gf args).run P w = .ok (.enter gf args) w)
    {ys : List β} {E : β → Array Value → World → World → Prop} {FB : Nat → Prop} (hseq : Tells0 F (n - 1) P gf lb ys E FB w) (hps : ∀ y args Xp X, E y args Xp X → args.size = ps.size) (hFB : ∀ k, FB k → k < w.heap.size) (FC : Nat → Prop) (hFC : ∀ k, FC k → k < w.heap.size)
    (I : Nat → World → Prop) (Ir : Code → Nat → World → Prop) (Pre : Nat → Act → World → Prop)
    (hI : ∀ i X X', I i X → Kp (fun k => k = w.heap.size + 1) X X' → I i X') (hIr : ∀ c i X X', Ir c i X → Kp (fun k => k = w.heap.size + 1) X X' → Ir c i X')
    (hPre : ∀ i a' X X', Pre i a' X → Kp (fun k => k = w.heap.size + 1) X X' → Pre i a' X') (h0 : I 0 w)
    (hassign : ∀ i y args Xp X, ys[i]? = some y → I i Xp → Below Xp.heap.size Xp X → E y args Xp X → w.heap.size + 2 ≤ Xp.heap.size → (∀ o, X.cell? ⟨w.heap.size + 1, o, none⟩ = none) →
      assign.wpIn (F.inRound (w.heap.size + 1)) (n - 1 - 1) P (Exit.then (fun a' X' => Pre i a' X' ∧ Kq (w.heap.size + 2) FB X X') (fun _ _ _ => False)) { tmps := (ps.zip args).foldl (fun t (p, v) => t.setIfInBounds p v) a.tmps, defers := [] } X)
    (hbody : ∀ i y a' X, ys[i]? = some y → Pre i a' X → w.heap.size + 2 ≤ X.heap.size → body.wpIn (F.inRound (w.heap.size + 1)) (n - 1 - 1) P (RoundEnd0 (w.heap.size + 2) FB FC I Ir i X) a' X)
    (hdone : ∀ X, I ys.length X → X.heap[w.heap.size]? = some (.deferred (some [])) → Q .normal { a with defers := { target := .collected w.heap.size, args := #[] } :: a.defers } X)
    (hleft : ∀ c i X, i ≤ ys.length → Ir c i X → X.heap[w.heap.size]? = some (.deferred (some [])) → c.wpIn F n P Q { a with defers := { target := .collected w.heap.size, args := #[] } :: a.defers } X) :
    (Code.rangeFunc g ps assign body).wpIn F n P Q a w := by
  refine wpIn_rangeFunc fun fn hfn => ?_
  rw [hro]
  obtain ⟨R, hR⟩ : ∃ R : LoopState → Option Code → Loop, R = lrec fn a ps assign body w.heap.size := ⟨_, rfl⟩
  obtain ⟨Z, hZ⟩ : ∃ Z, Z = (w.alloc (.deferred (some []))).alloc (.loop (R .ready none)) := ⟨_, rfl⟩
  have he : (Instr.enterLoop fn a.tmps ps assign body none).run P w = .ok (w.heap.size + 1, [{ target := .collected w.heap.size, args := #[] }]) Z := by
    rw [hZ, hR]
    exact run_enterLoop_outer _ _ _ _ _
  have hB : Below w.heap.size w Z := by rw [hZ]; exact bel2 _ _ _
  have hZs : Z.heap.size = w.heap.size + 2 := by rw [hZ, World.size_alloc, World.size_alloc]
  have hZl : Z.heap[w.heap.size + 1]? = some (.loop (R .ready none)) := by
    rw [hZ]
    have := World.alloc_heap_new (w.alloc (.deferred (some []))) (.loop (R .ready none))
    rwa [World.size_alloc] at this
  have hZd : Z.heap[w.heap.size]? = some (.deferred (some [])) := by
    rw [hZ]
    exact (Below.heap_alloc _ _ _ (by simp)).trans (World.alloc_heap_new w _)
  refine ⟨w.heap.size + 1, [{ target := .collected w.heap.size, args := #[] }], Z, { target := .fn (.func gf) lb, args := #[.func (.yield (w.heap.size + 1)) #[] #[]] }, Z, gf, #[.func (.yield (w.heap.size + 1)) #[] #[]] ++ lb, Z, he, ?_, ?_, ?_, fun _ => h1, ?_⟩
  · simp only [resolve, hg]
    simp [go_sem]
  · intro f' hf'
    simp [Target.leads] at hf'
    subst hf'
    exact hFg
  · simp [invoke, go_sem, eg]
  clear he hZ
  have hup : ∀ {A B : World}, Below A.heap.size A B → Kp (fun k => k = w.heap.size + 1) A B := fun h => Kp.of h
  refine (hseq (w.heap.size + 1) (fun i X => I i X ∧ X.heap[w.heap.size + 1]? = some (.loop (R .ready none)) ∧ X.heap[w.heap.size]? = some (.deferred (some [])))
    (fun i X => ∃ c, Ir c i X ∧ X.heap[w.heap.size + 1]? = some (.loop (R .done (some c))) ∧ X.heap[w.heap.size]? = some (.deferred (some []))) Z hB (by omega) (by omega) ?_ ?_ ?_ ⟨hI 0 w Z h0 (Kp.of hB), hZl, hZd⟩).mono ?_
  · rintro i A B ⟨x1, x2, x3⟩ hAB
    exact ⟨hI i A B x1 (hup hAB), (hAB.block _ (Array.getElem?_eq_some_iff.1 x2).1).trans x2, (hAB.block _ (Array.getElem?_eq_some_iff.1 x3).1).trans x3⟩
  · rintro i A B ⟨c, x1, x2, x3⟩ hAB
    exact ⟨c, hIr c i A B x1 (hup hAB), (hAB.block _ (Array.getElem?_eq_some_iff.1 x2).1).trans x2, (hAB.block _ (Array.getElem?_eq_some_iff.1 x3).1).trans x3⟩
  · rintro i y args Xp X hy ⟨x1, xp2, xp3⟩ hpX hE
    have sp : w.heap.size + 1 < Xp.heap.size := (Array.getElem?_eq_some_iff.1 xp2).1
    have x2 := (hpX.block _ sp).trans xp2
    have x3 := (hpX.block _ (Nat.lt_of_succ_lt sp)).trans xp3
    have s1 : w.heap.size + 1 < X.heap.size := (Array.getElem?_eq_some_iff.1 x2).1
    have hyd := run_yield (P := P) (args := args) x2 (by rw [hR]; exact hps y args Xp X hE)
    rw [hR] at hyd
    refine ⟨fn, _, assign, body, hyd, roundIn_of_wpIn hfn (wpIn_mono (hassign i y args Xp X hy x1 hpX hE (by omega) (fun o => by simp [World.cell?, x2])) ?_)⟩
    clear hyd
    intro e a' X1 h
    cases e with
    | normal =>
      obtain ⟨p1, k1⟩ := h
      have k1b : ∀ k, k = w.heap.size + 1 ∨ k = w.heap.size → X1.heap[k]? = X.heap[k]? := fun k hk => k1.block k (by omega) (by omega) (fun q => by have := hFB k q; omega)
      have y2 := (k1b _ (Or.inl rfl)).trans x2
      have y3 := (k1b _ (Or.inr rfl)).trans x3
      have s2 : w.heap.size + 1 < X1.heap.size := (Array.getElem?_eq_some_iff.1 y2).1
      refine ⟨_, run_beginRound y2 (by rw [hR]; rfl), ?_⟩
      refine wpIn_mono (hbody i y a' _ hy (hPre i a' _ _ p1 (kp_put _ _ _)) (by rw [World.putObj_size]; omega)) ?_
      -- how the round ends, wherever it goes
      have fin : ∀ (G : Nat → Prop) (jump : Option Code) (X3 : World), (∀ k, G k → k < w.heap.size) → Kq (w.heap.size + 2) G (X1.putObj (w.heap.size + 1) (.loop { R .ready none with state := .busy })) X3 →
          (Instr.endRound (w.heap.size + 1) jump).run P X3 = .ok (.bool jump.isNone) (X3.putObj (w.heap.size + 1) (.loop (R (if jump.isNone then .ready else .done) jump))) ∧
          (X3.putObj (w.heap.size + 1) (.loop (R (if jump.isNone then .ready else .done) jump))).heap[w.heap.size + 1]? = some (.loop (R (if jump.isNone then .ready else .done) jump)) ∧
          (X3.putObj (w.heap.size + 1) (.loop (R (if jump.isNone then .ready else .done) jump))).heap[w.heap.size]? = some (.deferred (some [])) := by
        intro G jump X3 hG k3
        have z2 : X3.heap[w.heap.size + 1]? = some (.loop { R .ready none with state := .busy }) :=
          (k3.block _ (by omega) (by rw [World.putObj_size]; exact s2) (fun q => by have := hG _ q; omega)).trans (World.putObj_heap_same s2)
        have z3 : X3.heap[w.heap.size]? = some (.deferred (some [])) :=
          (k3.block _ (by omega) (by rw [World.putObj_size]; omega) (fun q => by have := hG _ q; omega)).trans ((World.putObj_heap_other (by omega)).trans y3)
        have s3 : w.heap.size + 1 < X3.heap.size := (Array.getElem?_eq_some_iff.1 z2).1
        have hr := run_endRound (P := P) jump z2
        refine ⟨?_, World.putObj_heap_same s3, (World.putObj_heap_other (by omega)).trans z3⟩
        rw [hR] at hr ⊢
        exact hr
      have kept : ∀ (X3 : World) (o : Obj), Kq (w.heap.size + 2) FB (X1.putObj (w.heap.size + 1) (.loop { R .ready none with state := .busy })) X3 → Kq w.heap.size FB X (X3.putObj (w.heap.size + 1) o) := by
        intro X3 o k3
        have q1 : Kq w.heap.size FB X X1 := k1.mono (by omega) (fun k h => h)
        have p1 : ∀ (A : World) (o : Obj), Kq w.heap.size FB A (A.putObj (w.heap.size + 1) o) := fun A o => ⟨rfl, rfl, rfl, by simp, fun k hk _ _ => World.putObj_heap_other (by omega)⟩
        exact ((q1.trans (p1 X1 _)).trans (k3.mono (by omega) (fun k h => h))).trans (p1 X3 o)
      intro e a3 X3 h3
      cases e with
      | normal =>
        obtain ⟨j1, j2⟩ := h3
        obtain ⟨f1, f2, f3⟩ := fin FB none X3 hFB j2
        exact ⟨_, _, f1, Or.inl ⟨rfl, ⟨hI _ _ _ j1 (kp_put _ _ _), f2, f3⟩, kept _ _ j2⟩⟩
      | ret =>
        obtain ⟨j1, j2⟩ := h3
        obtain ⟨f1, f2, f3⟩ := fin FC (some .ret) X3 hFC j2
        exact ⟨_, _, f1, Or.inr ⟨rfl, .ret, hIr _ _ _ _ j1 (kp_put _ _ _), f2, f3⟩⟩
      | exit id =>
        obtain ⟨j1, j2⟩ := h3
        obtain ⟨f1, f2, f3⟩ := fin FC (some (.exit id)) X3 hFC j2
        exact ⟨_, _, f1, Or.inr ⟨rfl, .exit id, hIr _ _ _ _ j1 (kp_put _ _ _), f2, f3⟩⟩
      | goto t =>
        obtain ⟨j1, j2⟩ := h3
        obtain ⟨f1, f2, f3⟩ := fin FC (some (.goto t)) X3 hFC j2
        exact ⟨_, _, f1, Or.inr ⟨rfl, .goto t, hIr _ _ _ _ j1 (kp_put _ _ _), f2, f3⟩⟩
      | panic ch => exact h3.elim
      | outgrown => exact h3.elim
    | ret => exact h.elim
    | exit id => exact h.elim
    | goto t => exact h.elim
    | panic ch => exact h.elim
    | outgrown => exact h.elim
  · rintro e X ⟨⟨v, rfl⟩, ⟨x1, x2, x3⟩ | ⟨i, hi, c, x1, x2, x3⟩⟩
    · refine ⟨none, X.putObj (w.heap.size + 1) (.loop { R .ready none with state := .exhausted }), ?_, hdone _ (hI _ _ _ x1 (kp_put _ _ _)) ((World.putObj_heap_other (by omega)).trans x3)⟩
      have := run_endLoop (P := P) x2 (by rw [hR]; simp [lrec])
      rw [hR] at this ⊢
      exact this
    · refine ⟨some c, X.putObj (w.heap.size + 1) (.loop { R .done (some c) with state := .exhausted }), ?_, hleft c i _ hi (hIr _ _ _ _ x1 (kp_put _ _ _)) ((World.putObj_heap_other (by omega)).trans x3)⟩
      have := run_endLoop (P := P) x2 (by rw [hR]; simp [lrec])
      rw [hR] at this ⊢
      exact this
/-- A round of an outer loop, within a round of an inner one. -/
theorem roundIn_any {n n' l0 : Nat} {P : Program} {l : Nat} {f : FuncId} {tmps : Array Value} {assign body : Code} {w : World} {R : Ending → World → Prop} (h : RoundIn Fence.wide n P l f tmps assign body w R) : RoundIn (Fence.wide.inRound l0) n' P l f tmps assign body w R :=
  ⟨trivial, fun c cs _ => h.2 c cs (room_wide _)⟩
end Go.Proofs.YtkbpcmjdfaokhaaDoor
