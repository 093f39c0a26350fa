/-
  Texts of this proof, joined: RgLaw0 RgRound SqC.
-/
import Derived.Test.YthnpdcblfocemaaGreatDoorSP02
import Derived.Test.YthnpdcblfocemaaGreatDoorSP20
import Derived.OrdersIn
import Derived.OrdersHeld
import Derived.RangeFuncWrites
import Derived.TacticsIn
import Derived.Shelf.Abstract
import Derived.TacticsInMore
import Derived.OwnWalkIn
set_option linter.unusedVariables false
set_option linter.unusedSimpArgs false
namespace Go.Proofs.YthnpdcblfocemaaGreatDoor
open Go.RowKit

structure Kq (B : Nat) (F : Nat → Prop) (w w' : World) : Prop where
  os : w'.os = w.os
  tape : w'.tape = w.tape
  output : w'.output = w.output
  size : w.heap.size ≤ w'.heap.size
  block : ∀ k, k < B → k < w.heap.size → ¬ F k → w'.heap[k]? = w.heap[k]?
theorem Kq.of {B : Nat} {F : Nat → Prop} {w w' : World} (h : Kp F w w') : Kq B F w w' := ⟨h.os, h.tape, h.output, h.size, fun k _ hk hn => h.block k hk hn⟩
theorem Kq.below {B B' : Nat} {F : Nat → Prop} {w w' : World} (h : Below B' w w') (hB : B ≤ B') : Kq B F w w' := ⟨h.os, h.tape, h.output, h.size, fun k hk _ _ => h.block k (by omega)⟩
theorem Kq.mono {B B' : Nat} {F G : Nat → Prop} {w w' : World} (h : Kq B F w w') (hB : B' ≤ B) (hG : ∀ k, F k → G k) : Kq B' G w w' := ⟨h.os, h.tape, h.output, h.size, fun k hk hk2 hn => h.block k (by omega) hk2 (fun q => hn (hG k q))⟩
theorem Kq.trans {B : Nat} {F : Nat → Prop} {a b c : World} (h : Kq B F a b) (k : Kq B F b c) : Kq B F a c :=
  ⟨k.os.trans h.os, k.tape.trans h.tape, k.output.trans h.output, Nat.le_trans h.size k.size, fun i hi hi2 hn => (k.block i hi (Nat.lt_of_lt_of_le hi2 h.size) hn).trans (h.block i hi hi2 hn)⟩
def Tells0 {β : Type} (F : Fence) (n : Nat) (P : Program) (g : Nat) (lb : Array Value) (ys : List β) (E : β → Array Value → World → World → Prop) (FB : Nat → Prop) (w : World) : Prop :=
  ∀ (l : Nat) (J Jx : Nat → World → Prop) (W : World), Below w.heap.size w W → w.heap.size ≤ l → l < W.heap.size →
    (∀ i X X', J i X → Below X.heap.size X X' → J i X') → (∀ i X X', Jx i X → Below X.heap.size X X' → Jx i X') →
    (∀ i y args Xp X, ys[i]? = some y → J i Xp → Below Xp.heap.size Xp X → E y args Xp X → YieldAt F (n - 1) P l args X fun e X' =>
      (e = .returned (.bool true) ∧ J (i + 1) X' ∧ Kq w.heap.size FB X X') ∨ (e = .returned (.bool false) ∧ Jx (i + 1) X')) →
    J 0 W →
    CallsIn F n P g (#[.func (.yield l) #[] #[]] ++ lb) W fun e W' => (∃ v, e = .returned v) ∧ (J ys.length W' ∨ ∃ i, i ≤ ys.length ∧ Jx i W')
def RoundEnd0 (B : Nat) (FB FC : Nat → Prop) (I : Nat → World → Prop) (Ir : Code → Nat → World → Prop) (i : Nat) (X : World) : Exit → Act → World → Prop
  | .normal, _, X' => I (i + 1) X' ∧ Kq B FB X X'
  | .ret, _, X' => Ir .ret (i + 1) X' ∧ Kq B FC X X'
  | .exit id, _, X' => Ir (.exit id) (i + 1) X' ∧ Kq B FC X X'
  | .goto t, _, X' => Ir (.goto t) (i + 1) X' ∧ Kq B FC X X'
  | .panic _, _, _ => False
  | .outgrown, _, _ => False
theorem range_told0 {β : Type} {F : Fence} {n : Nat} {P : Program} {g : Operand} {ps : Array Tmp} {assign body : Code} {Q : Exit → Act → World → Prop} {a : Act} {w : World}
    (hro : F.round = none) (h1 : 1 ≤ n) {gf : Nat} {lb : Array Value} (hg : a.eval g = .func (.func gf) #[] lb) (hFg : F.fn gf) (eg : ∀ args w, (callFunc gf args).run P w = .ok (.enter gf args) w)
    {ys : List β} {E : β → Array Value → World → World → Prop} {FB : Nat → Prop} (hseq : Tells0 F (n - 1) P gf lb ys E FB w) (hps : ∀ y args Xp X, E y args Xp X → args.size = ps.size) (hFB : ∀ k, FB k → k < w.heap.size) (FC : Nat → Prop) (hFC : ∀ k, FC k → k < w.heap.size)
    (I : Nat → World → Prop) (Ir : Code → Nat → World → Prop) (Pre : Nat → Act → World → Prop)
    (hI : ∀ i X X', I i X → Kp (fun k => k = w.heap.size + 1) X X' → I i X') (hIr : ∀ c i X X', Ir c i X → Kp (fun k => k = w.heap.size + 1) X X' → Ir c i X')
    (hPre : ∀ i a' X X', Pre i a' X → Kp (fun k => k = w.heap.size + 1) X X' → Pre i a' X') (h0 : I 0 w)
    (hassign : ∀ i y args Xp X, ys[i]? = some y → I i Xp → Below Xp.heap.size Xp X → E y args Xp X → w.heap.size + 2 ≤ Xp.heap.size → (∀ o, X.cell? ⟨w.heap.size + 1, o, none⟩ = none) →
      assign.wpIn (F.inRound (w.heap.size + 1)) (n - 1 - 1) P (Exit.then (fun a' X' => Pre i a' X' ∧ Kq (w.heap.size + 2) FB X X') (fun _ _ _ => False)) { tmps := (ps.zip args).foldl (fun t (p, v) => t.setIfInBounds p v) a.tmps, defers := [] } X)
    (hbody : ∀ i y a' X, ys[i]? = some y → Pre i a' X → w.heap.size + 2 ≤ X.heap.size → body.wpIn (F.inRound (w.heap.size + 1)) (n - 1 - 1) P (RoundEnd0 (w.heap.size + 2) FB FC I Ir i X) a' X)
    (hdone : ∀ X, I ys.length X → X.heap[w.heap.size]? = some (.deferred (some [])) → Q .normal { a with defers := { target := .collected w.heap.size, args := #[] } :: a.defers } X)
    (hleft : ∀ c i X, i ≤ ys.length → Ir c i X → X.heap[w.heap.size]? = some (.deferred (some [])) → c.wpIn F n P Q { a with defers := { target := .collected w.heap.size, args := #[] } :: a.defers } X) :
    (Code.rangeFunc g ps assign body).wpIn F n P Q a w := by
  refine wpIn_rangeFunc fun fn hfn => ?_
  rw [hro]
  obtain ⟨R, hR⟩ : ∃ R : LoopState → Option Code → Loop, R = lrec fn a ps assign body w.heap.size := ⟨_, rfl⟩
  obtain ⟨Z, hZ⟩ : ∃ Z, Z = (w.alloc (.deferred (some []))).alloc (.loop (R .ready none)) := ⟨_, rfl⟩
  have he : (Instr.enterLoop fn a.tmps ps assign body none).run P w = .ok (w.heap.size + 1, [{ target := .collected w.heap.size, args := #[] }]) Z := by
    rw [hZ, hR]
    exact run_enterLoop_outer _ _ _ _ _
  have hB : Below w.heap.size w Z := by rw [hZ]; exact bel2 _ _ _
  have hZs : Z.heap.size = w.heap.size + 2 := by rw [hZ, World.size_alloc, World.size_alloc]
  have hZl : Z.heap[w.heap.size + 1]? = some (.loop (R .ready none)) := by
    rw [hZ]
    have := World.alloc_heap_new (w.alloc (.deferred (some []))) (.loop (R .ready none))
    rwa [World.size_alloc] at this
  have hZd : Z.heap[w.heap.size]? = some (.deferred (some [])) := by
    rw [hZ]
    exact (Below.heap_alloc _ _ _ (by simp)).trans (World.alloc_heap_new w _)
  refine ⟨w.heap.size + 1, [{ target := .collected w.heap.size, args := #[] }], Z, { target := .fn (.func gf) lb, args := #[.func (.yield (w.heap.size + 1)) #[] #[]] }, Z, gf, #[.func (.yield (w.heap.size + 1)) #[] #[]] ++ lb, Z, he, ?_, ?_, ?_, fun _ => h1, ?_⟩
  · simp only [resolve, hg]
    simp [go_sem]
  · intro f' hf'
    simp [Target.leads] at hf'
    subst hf'
    exact hFg
  · simp [invoke, go_sem, eg]
  clear he hZ
  have hup : ∀ {A B : World}, Below A.heap.size A B → Kp (fun k => k = w.heap.size + 1) A B := fun h => Kp.of h
  refine (hseq (w.heap.size + 1) (fun i X => I i X ∧ X.heap[w.heap.size + 1]? = some (.loop (R .ready none)) ∧ X.heap[w.heap.size]? = some (.deferred (some [])))
    (fun i X => ∃ c, Ir c i X ∧ X.heap[w.heap.size + 1]? = some (.loop (R .done (some c))) ∧ X.heap[w.heap.size]? = some (.deferred (some []))) Z hB (by omega) (by omega) ?_ ?_ ?_ ⟨hI 0 w Z h0 (Kp.of hB), hZl, hZd⟩).mono ?_
  · rintro i A B ⟨x1, x2, x3⟩ hAB
    exact ⟨hI i A B x1 (hup hAB), (hAB.block _ (Array.getElem?_eq_some_iff.1 x2).1).trans x2, (hAB.block _ (Array.getElem?_eq_some_iff.1 x3).1).trans x3⟩
  · rintro i A B ⟨c, x1, x2, x3⟩ hAB
    exact ⟨c, hIr c i A B x1 (hup hAB), (hAB.block _ (Array.getElem?_eq_some_iff.1 x2).1).trans x2, (hAB.block _ (Array.getElem?_eq_some_iff.1 x3).1).trans x3⟩
  · rintro i y args Xp X hy ⟨x1, xp2, xp3⟩ hpX hE
    have sp : w.heap.size + 1 < Xp.heap.size := (Array.getElem?_eq_some_iff.1 xp2).1
    have x2 := (hpX.block _ sp).trans xp2
    have x3 := (hpX.block _ (Nat.lt_of_succ_lt sp)).trans xp3
    have s1 : w.heap.size + 1 < X.heap.size := (Array.getElem?_eq_some_iff.1 x2).1
    have hyd := run_yield (P := P) (args := args) x2 (by rw [hR]; exact hps y args Xp X hE)
    rw [hR] at hyd
    refine ⟨fn, _, assign, body, hyd, roundIn_of_wpIn hfn (wpIn_mono (hassign i y args Xp X hy x1 hpX hE (by omega) (fun o => by simp [World.cell?, x2])) ?_)⟩
    clear hyd
    intro e a' X1 h
    cases e with
    | normal =>
      obtain ⟨p1, k1⟩ := h
      have k1b : ∀ k, k = w.heap.size + 1 ∨ k = w.heap.size → X1.heap[k]? = X.heap[k]? := fun k hk => k1.block k (by omega) (by omega) (fun q => by have := hFB k q; omega)
      have y2 := (k1b _ (Or.inl rfl)).trans x2
      have y3 := (k1b _ (Or.inr rfl)).trans x3
      have s2 : w.heap.size + 1 < X1.heap.size := (Array.getElem?_eq_some_iff.1 y2).1
      refine ⟨_, run_beginRound y2 (by rw [hR]; rfl), ?_⟩
      refine wpIn_mono (hbody i y a' _ hy (hPre i a' _ _ p1 (kp_put _ _ _)) (by rw [World.putObj_size]; omega)) ?_
      -- how the round ends, wherever it goes
      have fin : ∀ (G : Nat → Prop) (jump : Option Code) (X3 : World), (∀ k, G k → k < w.heap.size) → Kq (w.heap.size + 2) G (X1.putObj (w.heap.size + 1) (.loop { R .ready none with state := .busy })) X3 →
          (Instr.endRound (w.heap.size + 1) jump).run P X3 = .ok (.bool jump.isNone) (X3.putObj (w.heap.size + 1) (.loop (R (if jump.isNone then .ready else .done) jump))) ∧
          (X3.putObj (w.heap.size + 1) (.loop (R (if jump.isNone then .ready else .done) jump))).heap[w.heap.size + 1]? = some (.loop (R (if jump.isNone then .ready else .done) jump)) ∧
          (X3.putObj (w.heap.size + 1) (.loop (R (if jump.isNone then .ready else .done) jump))).heap[w.heap.size]? = some (.deferred (some [])) := by
        intro G jump X3 hG k3
        have z2 : X3.heap[w.heap.size + 1]? = some (.loop { R .ready none with state := .busy }) :=
          (k3.block _ (by omega) (by rw [World.putObj_size]; exact s2) (fun q => by have := hG _ q; omega)).trans (World.putObj_heap_same s2)
        have z3 : X3.heap[w.heap.size]? = some (.deferred (some [])) :=
          (k3.block _ (by omega) (by rw [World.putObj_size]; omega) (fun q => by have := hG _ q; omega)).trans ((World.putObj_heap_other (by omega)).trans y3)
        have s3 : w.heap.size + 1 < X3.heap.size := (Array.getElem?_eq_some_iff.1 z2).1
        have hr := run_endRound (P := P) jump z2
        refine ⟨?_, World.putObj_heap_same s3, (World.putObj_heap_other (by omega)).trans z3⟩
        rw [hR] at hr ⊢
        exact hr
      have kept : ∀ (X3 : World) (o : Obj), Kq (w.heap.size + 2) FB (X1.putObj (w.heap.size + 1) (.loop { R .ready none with state := .busy })) X3 → Kq w.heap.size FB X (X3.putObj (w.heap.size + 1) o) := by
        intro X3 o k3
        have q1 : Kq w.heap.size FB X X1 := k1.mono (by omega) (fun k h => h)
        have p1 : ∀ (A : World) (o : Obj), Kq w.heap.size FB A (A.putObj (w.heap.size + 1) o) := fun A o => ⟨rfl, rfl, rfl, by simp, fun k hk _ _ => World.putObj_heap_other (by omega)⟩
        exact ((q1.trans (p1 X1 _)).trans (k3.mono (by omega) (fun k h => h))).trans (p1 X3 o)
      intro e a3 X3 h3
      cases e with
      | normal =>
        obtain ⟨j1, j2⟩ := h3
        obtain ⟨f1, f2, f3⟩ := fin FB none X3 hFB j2
        exact ⟨_, _, f1, Or.inl ⟨rfl, ⟨hI _ _ _ j1 (kp_put _ _ _), f2, f3⟩, kept _ _ j2⟩⟩
      | ret =>
        obtain ⟨j1, j2⟩ := h3
        obtain ⟨f1, f2, f3⟩ := fin FC (some .ret) X3 hFC j2
        exact ⟨_, _, f1, Or.inr ⟨rfl, .ret, hIr _ _ _ _ j1 (kp_put _ _ _), f2, f3⟩⟩
      | exit id =>
        obtain ⟨j1, j2⟩ := h3
        obtain ⟨f1, f2, f3⟩ := fin FC (some (.exit id)) X3 hFC j2
        exact ⟨_, _, f1, Or.inr ⟨rfl, .exit id, hIr _ _ _ _ j1 (kp_put _ _ _), f2, f3⟩⟩
      | goto t =>
        obtain ⟨j1, j2⟩ := h3
        obtain ⟨f1, f2, f3⟩ := fin FC (some (.goto t)) X3 hFC j2
        exact ⟨_, _, f1, Or.inr ⟨rfl, .goto t, hIr _ _ _ _ j1 (kp_put _ _ _), f2, f3⟩⟩
      | panic ch => exact h3.elim
      | outgrown => exact h3.elim
    | ret => exact h.elim
    | exit id => exact h.elim
    | goto t => exact h.elim
    | panic ch => exact h.elim
    | outgrown => exact h.elim
  · rintro e X ⟨⟨v, rfl⟩, ⟨x1, x2, x3⟩ | ⟨i, hi, c, x1, x2, x3⟩⟩
    · refine ⟨none, X.putObj (w.heap.size + 1) (.loop { R .ready none with state := .exhausted }), ?_, hdone _ (hI _ _ _ x1 (kp_put _ _ _)) ((World.putObj_heap_other (by omega)).trans x3)⟩
      have := run_endLoop (P := P) x2 (by rw [hR]; simp [lrec])
      rw [hR] at this ⊢
      exact this
    · refine ⟨some c, X.putObj (w.heap.size + 1) (.loop { R .done (some c) with state := .exhausted }), ?_, hleft c i _ hi (hIr _ _ _ _ x1 (kp_put _ _ _)) ((World.putObj_heap_other (by omega)).trans x3)⟩
      have := run_endLoop (P := P) x2 (by rw [hR]; simp [lrec])
      rw [hR] at this ⊢
      exact this
end Go.Proofs.YthnpdcblfocemaaGreatDoor
set_option linter.unusedVariables false
set_option linter.unusedSimpArgs false
namespace Go.Proofs.YthnpdcblfocemaaGreatDoor

theorem oper_round {P : Program} {o : Oper} {a : Act} {w : World} {K : Act → World → Prop} {Q : Exit → Act → World → Prop} (l n : Nat) (hd : ∀ c, o.op ≠ .defer c) (h : o.wp P a w K Q) : o.wpIn (Fence.wide.inRound l) n P a w K Q := by
  refine ⟨fun _ _ => trivial, ?_⟩
  rw [show (Fence.wide.inRound l).round = some l from rfl, Oper.semAt_some l a.eval o hd]
  unfold Oper.wp at h
  generalize (execOp a.eval o).run P w = r at *
  cases r with
  | ok x w' =>
    cases x with
    | value v => exact h
    | skip => exact h
    | defer d => exact h
    | enter f args => exact ⟨fun hh => by simp [Fence.wide, Fence.inRound] at hh, (callsIn_wide (n := n - 1)).2 h⟩
    | row r args => exact ⟨fun hh => by simp [Fence.wide, Fence.inRound] at hh, fun c cs _ => let ⟨v, w', r, s⟩ := h c cs; ⟨v, w', r, stepsIn_wide.2 s⟩⟩
    | _ => exact absurd h (by simp [Oper.upon])
  | halt x w' => cases x <;> simp only [Oper.upon, Oper.uponIn] at h ⊢ <;> exact h
theorem any_round {P : Program} {ops : Array Oper} {Q : Exit → Act → World → Prop} {md : Region.Mode} (l n : Nat) (hd : ∀ (i : Nat) (o : Oper), ops[i]? = some o → ∀ c, o.op ≠ .defer c) (hL : ¬ LetsOut Q) : ∀ (fuel : Nat) (listed : Array Bool) (a : Act) (w : World), wpAny P md ops Q fuel listed a w → wpAnyIn (Fence.wide.inRound l) n P md ops Q fuel listed a w
  | 0, _, _, _, h => h
  | fuel + 1, listed, a, w, h => ⟨h.1, fun i hi => by
      have h2 := h.2 i hi
      unfold wpOp at h2
      unfold wpOpIn
      cases ho : ops[i]? with
      | none => simp only [ho] at h2 ⊢; exact any_round l n hd hL fuel _ a w h2
      | some o =>
        simp only [ho] at h2 ⊢
        by_cases hw : Region.wanted o (yielded ops a.tmps) = true
        · simp only [hw, if_true] at h2 ⊢
          rcases h2 with h2 | h2
          · exact Oper.wpIn_mono (fun a w h => any_round l n hd hL fuel _ a w h) (oper_round l n (hd i o ho) h2)
          · exact absurd h2.2 hL
        · simp only [hw] at h2 ⊢
          exact ⟨fun _ _ => trivial, any_round l n hd hL fuel _ _ w h2⟩⟩
def noDefer (ops : Array Oper) : Bool := ops.toList.all fun o => match o.op with | .defer _ => false | _ => true
theorem noDefer_at {ops : Array Oper} (h : noDefer ops = true) (i : Nat) (o : Oper) (ho : ops[i]? = some o) : ∀ c, o.op ≠ .defer c := fun c hc => by
  have h1 := List.all_eq_true.1 h o (by
    have := Array.mem_of_getElem? ho
    exact Array.mem_toList_iff.2 this)
  rw [hc] at h1
  cases h1
theorem region_round {P : Program} {ops : Array Oper} {Q : Exit → Act → World → Prop} {id n l : Nat} {a : Act} {w : World} (hm : P.follows .mixedOrders = true) (hd : noDefer ops = true) (hL : ¬ LetsOut Q) (h : wpAny P .any ops Q ops.size (Array.replicate ops.size false) a w.drew) : (Code.region id ops true).wpIn (Fence.wide.inRound l) n P Q a w :=
  wpIn_region_any hm (any_round l n (fun i o ho => noDefer_at hd i o ho) hL _ _ _ _ h)
theorem region_round_held {P : Program} {ops : Array Oper} {Q : Exit → Act → World → Prop} {id n l : Nat} {a : Act} {w : World} (S : World → Prop) (hm : P.follows .mixedOrders = true) (hd : noDefer ops = true) (hL : ¬ LetsOut Q) (hS : S w.drew) (h : S w.drew → wpAnyH P .any ops Q S ops.size (Array.replicate ops.size false) a w.drew) : (Code.region id ops true).wpIn (Fence.wide.inRound l) n P Q a w :=
  region_round hm hd hL (wpAny_of_held _ _ _ _ (h hS))
end Go.Proofs.YthnpdcblfocemaaGreatDoor
set_option linter.unusedVariables false
set_option linter.unusedSimpArgs false
namespace Go.Proofs.YthnpdcblfocemaaGreatDoor
open Go.RowKit Go.Shelf
attribute [local go_sem] Oper.semAt_some

def cks (d : List Nat) : List (List Nat) := (List.range ((d.length + 127) / 128)).map (ck d)
theorem cks_len (d : List Nat) : (cks d).length = (d.length + 127) / 128 := by simp [cks]
theorem cks_get (d : List Nat) (k : Nat) (h : k < (d.length + 127) / 128) : (cks d)[k]? = some (ck d k) := by
  unfold cks
  rw [List.getElem?_map, List.getElem?_range h]
  rfl
def EC16 (FB : Nat → Prop) (B : Nat) (y : List Nat) (args : Array Value) (Xp X : World) : Prop := ∃ v, args = #[v] ∧ Bs X v y ∧ Nf FB v ∧ Lo B v
set_option maxRecDepth 100000 in
set_option maxHeartbeats 4000000 in
theorem chunk_tells (B1 B2 : Nat) (FB : Nat → Prop) {W : World} (ad : Option Addr) (n cap : Nat) (d : List Nat) (hd : Bs W (.slice ad n cap) d) (hn : d.length = n) (hl : n ≤ 100000) (hnf : Nf FB (.slice ad n cap)) (h1 : ¬ FB B1) (h2 : ¬ FB B2)
    (c1 : W.cell? ⟨B1, 0, none⟩ = some (.slice ad n cap)) (c2 : W.cell? ⟨B2, 0, none⟩ = some (.int .i64 128)) :
    Tells0 Fence.wide 9 Tryz.prog 102 #[.pointer (some ⟨B1, 0, none⟩), .pointer (some ⟨B2, 0, none⟩)] (cks d) (EC16 FB W.heap.size) FB W := by
  intro l0 J Jx W1 hb hl1 hl2 hJ hJx hY h0
  have HD : Hid (Bs W (.slice ad n cap) d ∧ d.length = n ∧ Nf FB (.slice ad n cap)) := ⟨hd, hn, hnf⟩
  have HB : Hid (¬ FB B1 ∧ ¬ FB B2 ∧ W.cell? ⟨B1, 0, none⟩ = some (.slice ad n cap) ∧ W.cell? ⟨B2, 0, none⟩ = some (.int .i64 128) ∧ B1 < W.heap.size ∧ B2 < W.heap.size) := ⟨h1, h2, c1, c2, World.block_lt_of_cell? _ _ c1, World.block_lt_of_cell? _ _ c2⟩
  obtain ⟨ad', cap', e', l1, l2⟩ := hd.len
  injection e' with e1 e2 e3
  rw [← e3] at l1 l2
  clear e1 e2 e3
  unfold maxLen at l2
  have HJ : Hid ((∀ i X X', J i X → Below X.heap.size X X' → J i X')) := hJ
  have HY : Hid (∀ i y args Xp X, (cks d)[i]? = some y → J i Xp → Below Xp.heap.size Xp X → EC16 FB W.heap.size y args Xp X → YieldAt Fence.wide (9 - 1) Tryz.prog l0 args X fun e X' =>
      (e = .returned (.bool true) ∧ J (i + 1) X' ∧ Kq W.heap.size FB X X') ∨ (e = .returned (.bool false) ∧ Jx (i + 1) X')) := hY
  obtain ⟨cnt, hcnt⟩ : ∃ cnt, (n + 127) / 128 = cnt := ⟨_, rfl⟩
  have HN : Hid ((n + 127) / 128 = cnt ∧ (cks d).length = cnt) := ⟨hcnt, by rw [cks_len, hn]; exact hcnt⟩
  have hx1 := (hb.cell (p := ⟨B1, 0, none⟩) (World.block_lt_of_cell? _ _ c1)).trans c1
  have hx2 := (hb.cell (p := ⟨B2, 0, none⟩) (World.block_lt_of_cell? _ _ c2)).trans c2
  have HR : Hid (J 0 W1 ∧ (∀ k, k < W.heap.size → ¬ FB k → W1.heap[k]? = W.heap[k]?) ∧ W.heap.size ≤ W1.heap.size) := ⟨h0, fun k hk _ => hb.block k hk, hb.size⟩
  rw [hn] at l1
  clear hd hn hnf h1 h2 c1 c2 hb hJ hJx h0 hY hcnt hl1 hl2
  refine callsIn_wide.2 ?_
  show Calls Tryz.prog 102 #[.func (.yield l0) #[] #[], .pointer (some ⟨B1, 0, none⟩), .pointer (some ⟨B2, 0, none⟩)] W1 _
  go_enter Tryz.func102, Tryz.ntmps102
  go_upto_region 1 with fail
  clear hx1 hx2
  go_loopw [4] (fun s4 wr => ∃ r : Nat, r ≤ cnt ∧ s4 = .int .i64 ((r * 128 : Nat) : Int) ∧ Hid (J r wr ∧ (∀ k, k < W.heap.size → ¬ FB k → wr.heap[k]? = W.heap[k]?) ∧ W.heap.size ≤ wr.heap.size)) (fun s4 _ => cnt * 128 - (intOf s4).toNat)
  case atStart => exact ⟨0, Nat.zero_le _, rfl, HR.out⟩
  case round =>
    obtain ⟨r, hr, rfl, HW⟩ := hrel
    clear HR
    have cB1 : wr.cell? ⟨B1, 0, none⟩ = some (.slice ad n cap) := cell_blk5 (a := ⟨B1, 0, none⟩) (HW.out.2.1 B1 HB.out.2.2.2.2.1 HB.out.1) HB.out.2.2.1
    have cB2 : wr.cell? ⟨B2, 0, none⟩ = some (.int .i64 128) := cell_blk5 (a := ⟨B2, 0, none⟩) (HW.out.2.1 B2 HB.out.2.2.2.2.2 HB.out.2.1) HB.out.2.2.2.1
    obtain ⟨p, hp⟩ : ∃ p, r * 128 = p := ⟨_, rfl⟩
    have HP : Hid (r * 128 = p) := hp
    rw [hp]
    by_cases hlt : r < cnt
    · have hpn : p < n := by have := HN.out.1; omega
      have hpI : (p : Int) < (n : Int) := by omega
      obtain ⟨b, o, rfl, -⟩ := HD.out.1.cel 0 (by rw [HD.out.2.1]; omega)
      obtain ⟨e, he⟩ : ∃ e, min 128 (n - p) = e := ⟨_, rfl⟩
      have hck : ck d r = (d.drop p).take e := by
        unfold ck
        rw [hp, ← he]
        by_cases q : 128 ≤ n - p
        · rw [Nat.min_eq_left q]
        · rw [Nat.min_eq_right (by omega), List.take_of_length_le (by rw [List.length_drop, HD.out.2.1]; omega), List.take_of_length_le (by rw [List.length_drop, HD.out.2.1]; omega)]
      have hel : (ck d r).length = e := by rw [hck, List.length_take, List.length_drop, HD.out.2.1]; omega
      have HE : Hid (EC16 FB W.heap.size (ck d r) #[.slice (some ⟨b, o + p, none⟩) e e] wr wr.drew) := by
        refine ⟨_, rfl, ?_, ?_, ?_⟩
        · refine ⟨some ⟨b, o + p, none⟩, e, b, o + p, by rw [hel], by omega, ⟨by unfold maxLen; omega, fun e => by cases e⟩, fun _ => rfl, fun j hj => ?_⟩
          rw [hel] at hj
          obtain ⟨b', o', e', hc⟩ := HD.out.1.cel (p + j) (by rw [HD.out.2.1]; omega)
          cases e'
          have hlo := World.block_lt_of_cell? _ _ hc
          have hnfb : ¬ FB b := HD.out.2.2 ⟨b, o, none⟩ n cap rfl (by omega)
          have hcw : wr.cell? ⟨b, o + (p + j), none⟩ = some (.int .u8 ((d.getD (p + j) 0 : Nat) : Int)) := cell_blk5 (a := ⟨b, o + (p + j), none⟩) (HW.out.2.1 b hlo hnfb) hc
          have eg : (ck d r).getD j 0 = d.getD (p + j) 0 := by
            rw [hck]
            simp [List.getD, List.getElem?_take, List.getElem?_drop, hj]
          show wr.drew.cell? _ = _
          rw [Nat.add_assoc]
          unfold b8f
          rw [eg]
          exact hcw
        · intro a n' c' e' hn'
          cases e'
          exact HD.out.2.2 ⟨b, o, none⟩ n cap rfl (by omega)
        · intro a n' c' e' hn'
          cases e'
          obtain ⟨b', o', e', hc⟩ := HD.out.1.cel 0 (by rw [HD.out.2.1]; omega)
          cases e'
          have := World.block_lt_of_cell? _ _ hc
          exact this
      obtain ⟨fn, tmps, assign, body, hy, hR⟩ := HY.out r (ck d r) _ wr wr.drew (cks_get d r (by rw [HD.out.2.1, HN.out.1]; exact hlt)) HW.out.1 (Below.refl _ _).drew HE.out
      have HKd : Hid ((∀ k, k < W.heap.size → ¬ FB k → wr.drew.heap[k]? = W.heap[k]?) ∧ W.heap.size ≤ wr.drew.heap.size) := HW.out.2
      have cD1 : wr.drew.cell? ⟨B1, 0, none⟩ = some (.slice (some ⟨b, o, none⟩) n cap) := cB1
      have hpcap : p ≤ cap := by omega
      have hpcap' : ¬ cap = p := by omega
      by_cases q8 : 128 ≤ n - p
      · obtain rfl : e = 128 := by omega
        obtain ⟨m, hm⟩ : ∃ m, n - p = m := ⟨_, rfl⟩
        have hmI : (128 : Int) ≤ (m : Int) := by omega
        have htn : ((p : Int) + 128).toNat - p = 128 := by omega
        have hpw2 : (p : Int) + 128 ≤ (n : Int) := by omega
        have hpw3 : (p : Int) + 128 ≤ (cap : Int) := by omega
        clear hck hel HW HE he hp
        go_upto_region 3 with fail
        go_region
        all_goals
          go_upto_region 4 with fail
          refine (wpIn_wide (n := 9)).1 ?_
          gi_wp2
          refine hR.mono ?_
          rintro ee X3 (⟨rfl, hJ3, hK3⟩ | ⟨rfl, hJx3⟩)
          · have HX3 : Hid (J (r + 1) X3 ∧ (∀ k, k < W.heap.size → ¬ FB k → X3.heap[k]? = W.heap[k]?) ∧ W.heap.size ≤ X3.heap.size) :=
              ⟨hJ3, fun q hq hnq => (hK3.block q hq (Nat.lt_of_lt_of_le hq HKd.out.2) hnq).trans (HKd.out.1 q hq hnq), Nat.le_trans HKd.out.2 hK3.size⟩
            have cX2 : X3.cell? ⟨B2, 0, none⟩ = some (.int .i64 128) := cell_blk5 (a := ⟨B2, 0, none⟩) (HX3.out.2.1 B2 HB.out.2.2.2.2.2 HB.out.2.1) HB.out.2.2.2.1
            have hpw : IntKind.i64.wrap ((p : Int) + 128) = (((r + 1) * 128 : Nat) : Int) := by rw [IntKind.wrap_i64]; have := HP.out; omega
            clear hJ3 hK3 hR hy cB1 cB2 cD1
            gi_wp2
            go_wp2
            go_roundw
            case rel => exact ⟨r + 1, by omega, by first | rfl | (have := HP.out; congr 1; omega), HX3.out⟩
            case measure => simp only [intOf]; have := HP.out; omega
          · have HX3 : Hid (Jx (r + 1) X3 ∧ r + 1 ≤ (cks d).length) := ⟨hJx3, by rw [HN.out.2]; omega⟩
            clear hJx3 hR hy cB1 cB2 cD1
            gi_wp2
            go_wp2
            refine bodyPost_ret (results_none rfl _ _ _) rfl ?_
            exact ⟨⟨_, rfl⟩, Or.inr ⟨_, HX3.out.2, HX3.out.1⟩⟩
      · have hm : n - p = e := by omega
        have hmI : ¬ (128 : Int) ≤ (e : Int) := by omega
        have htn : ((p : Int) + (e : Int)).toNat - p = e := by omega
        have hpw2 : (p : Int) + (e : Int) ≤ (n : Int) := by omega
        have hpw3 : (p : Int) + (e : Int) ≤ (cap : Int) := by omega
        clear hck hel HW HE he hp
        go_upto_region 3 with fail
        go_region
        all_goals
          go_upto_region 4 with fail
          refine (wpIn_wide (n := 9)).1 ?_
          gi_wp2
          refine hR.mono ?_
          rintro ee X3 (⟨rfl, hJ3, hK3⟩ | ⟨rfl, hJx3⟩)
          · have HX3 : Hid (J (r + 1) X3 ∧ (∀ k, k < W.heap.size → ¬ FB k → X3.heap[k]? = W.heap[k]?) ∧ W.heap.size ≤ X3.heap.size) :=
              ⟨hJ3, fun q hq hnq => (hK3.block q hq (Nat.lt_of_lt_of_le hq HKd.out.2) hnq).trans (HKd.out.1 q hq hnq), Nat.le_trans HKd.out.2 hK3.size⟩
            have cX2 : X3.cell? ⟨B2, 0, none⟩ = some (.int .i64 128) := cell_blk5 (a := ⟨B2, 0, none⟩) (HX3.out.2.1 B2 HB.out.2.2.2.2.2 HB.out.2.1) HB.out.2.2.2.1
            have hpw : IntKind.i64.wrap ((p : Int) + 128) = (((r + 1) * 128 : Nat) : Int) := by rw [IntKind.wrap_i64]; have := HP.out; omega
            clear hJ3 hK3 hR hy cB1 cB2 cD1
            gi_wp2
            go_wp2
            go_roundw
            case rel => exact ⟨r + 1, by omega, by first | rfl | (have := HP.out; congr 1; omega), HX3.out⟩
            case measure => simp only [intOf]; have := HP.out; omega
          · have HX3 : Hid (Jx (r + 1) X3 ∧ r + 1 ≤ (cks d).length) := ⟨hJx3, by rw [HN.out.2]; omega⟩
            clear hJx3 hR hy cB1 cB2 cD1
            gi_wp2
            go_wp2
            refine bodyPost_ret (results_none rfl _ _ _) rfl ?_
            exact ⟨⟨_, rfl⟩, Or.inr ⟨_, HX3.out.2, HX3.out.1⟩⟩
    · have hnp : ¬ p < n := by have := HN.out.1; omega
      have hpI : ¬ (p : Int) < (n : Int) := by omega
      have HE : Hid (J (cks d).length wr) := by rw [HN.out.2]; have e : r = cnt := by omega
                                                rw [← e]; exact HW.out.1
      clear HW hp
      go_wp2
      go_end0
      exact ⟨⟨_, rfl⟩, Or.inl HE.out⟩
set_option maxRecDepth 100000 in
set_option maxHeartbeats 4000000 in
theorem chunk16 (ad : Option Addr) (n cap : Nat) (w : World) :
    Calls Tryz.prog 96 #[.slice ad n cap, .int .i64 128] w fun e w' => e = .returned (.func (.func 102) #[] #[.pointer (some ⟨w.heap.size, 0, none⟩), .pointer (some ⟨w.heap.size + 1, 0, none⟩)]) ∧ w' = (w.alloc (.cells #[.slice ad n cap] 30)).alloc (.cells #[.int .i64 128] 3) := by
  have hmf : ∀ (fn : Fn) (first cap : Array Value) (w : World), (Instr.makeFunc fn first cap).run Tryz.prog w = .ok (.func fn first cap) w := fun _ _ _ _ => rfl
  go_enter Tryz.func96, Tryz.ntmps96
  go_wp2
  go_ret
  exact ⟨by first | rfl | simp, rfl⟩
end Go.Proofs.YthnpdcblfocemaaGreatDoor
