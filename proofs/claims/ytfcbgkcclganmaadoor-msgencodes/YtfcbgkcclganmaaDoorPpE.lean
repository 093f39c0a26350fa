/-
  The program's pack: a reader whatever it has come to; Error, Done, Read; recover.
-/
import Derived.Test.YtfcbgkcclganmaaDoorPpD
import Derived.Defers
import Derived.Recover
import Derived.Laws.Pointers
set_option linter.unusedVariables false
set_option linter.unusedSimpArgs false
namespace Go.Proofs.YtfcbgkcclganmaaDoor
open Go.RowKit

/-- A reader that has met an error (1: it is none). -/
structure Re (w : World) (b : Nat) (F : Nat → Prop) (x : Nat) : Prop where
  lt : ∀ k, F k → k < w.heap.size
  fb : F b
  c : (w.cell? ⟨b, 0, none⟩ = some (.bool false) ∧ x = 1) ∨ (w.cell? ⟨b, 0, none⟩ = some (.bool true) ∧ w.cell? ⟨b, 2, none⟩ = some (.int .i64 (x : Int)) ∧ x ≠ 0)
def Rp (w : World) (p : Value) (F : Nat → Prop) (s : Sta) : Prop :=
  (p = .pointer none ∧ s = .error 1 ∧ ∀ k, ¬ F k) ∨ ∃ b, p = .pointer (some ⟨b, 0, none⟩) ∧ ((∃ x, s = .error x ∧ Re w b F x) ∨ ∃ l, s = .ok l ∧ Ro w b F l)
theorem Re.kept {w w' : World} {b : Nat} {F : Nat → Prop} {x : Nat} (h : Re w b F x) (k : ∀ k, F k → w'.heap[k]? = w.heap[k]?) (hs : w.heap.size ≤ w'.heap.size) : Re w' b F x := by
  refine ⟨fun i hi => Nat.lt_of_lt_of_le (h.lt i hi) hs, h.fb, ?_⟩
  rcases h.c with ⟨h1, h2⟩ | ⟨h1, h2, h3⟩
  · exact Or.inl ⟨cell_blk (k b h.fb) h1, h2⟩
  · exact Or.inr ⟨cell_blk (k b h.fb) h1, cell_blk (k b h.fb) h2, h3⟩
theorem Re.later {w w' : World} {b : Nat} {F : Nat → Prop} {x : Nat} (h : Re w b F x) (hb : Below w.heap.size w w') : Re w' b F x := h.kept (fun k hk => hb.block k (h.lt k hk)) hb.size
theorem Re.ne {w : World} {b : Nat} {F : Nat → Prop} {x : Nat} (h : Re w b F x) : x ≠ 0 := by
  rcases h.c with ⟨h1, h2⟩ | ⟨h1, h2, h3⟩
  · omega
  · exact h3
theorem Rp.kept {w w' : World} {p : Value} {F : Nat → Prop} {s : Sta} (h : Rp w p F s) (k : ∀ k, F k → w'.heap[k]? = w.heap[k]?) (hs : w.heap.size ≤ w'.heap.size) : Rp w' p F s := by
  rcases h with h | ⟨b, e, ⟨x, e2, h⟩ | ⟨l, e2, h⟩⟩
  · exact Or.inl h
  · exact Or.inr ⟨b, e, Or.inl ⟨x, e2, h.kept k hs⟩⟩
  · exact Or.inr ⟨b, e, Or.inr ⟨l, e2, h.kept k hs⟩⟩
theorem Rp.lt {w : World} {p : Value} {F : Nat → Prop} {s : Sta} (h : Rp w p F s) : ∀ k, F k → k < w.heap.size := by
  rcases h with ⟨-, -, h⟩ | ⟨b, e, ⟨x, e2, h⟩ | ⟨l, e2, h⟩⟩
  · exact fun k hk => absurd hk (h k)
  · exact h.lt
  · exact h.lt
set_option maxRecDepth 100000 in
set_option maxHeartbeats 1000000 in
theorem rerr_nil (w : World) : Calls Tryd.prog 61 #[.pointer none] w fun e w' => e = .returned (.int .i64 1) ∧ w' = w := by
  go_enter Tryd.func61, Tryd.ntmps61
  go_wp2
  go_ret
  exact ⟨rfl, rfl⟩
set_option maxRecDepth 100000 in
set_option maxHeartbeats 1000000 in
theorem rerr_bad (b x : Nat) (F : Nat → Prop) (w : World) (h : Re w b F x) : Calls Tryd.prog 61 #[.pointer (some ⟨b, 0, none⟩)] w fun e w' => e = .returned (.int .i64 (x : Int)) ∧ w' = w := by
  rcases h.c with ⟨c0, rfl⟩ | ⟨c0, c2, -⟩
  · clear h
    go_enter Tryd.func61, Tryd.ntmps61
    go_wp2
    go_ret
    exact ⟨rfl, rfl⟩
  · clear h
    go_enter Tryd.func61, Tryd.ntmps61
    go_wp2
    go_ret
    exact ⟨rfl, rfl⟩
set_option maxRecDepth 100000 in
set_option maxHeartbeats 1000000 in
theorem rerr_ok (b : Nat) (F : Nat → Prop) (l : List Nat) (w : World) (h : Ro w b F l) : Calls Tryd.prog 61 #[.pointer (some ⟨b, 0, none⟩)] w fun e w' => e = .returned (.int .i64 0) ∧ w' = w := by
  have c0 := h.c0
  have c2 := h.c2
  clear h
  go_enter Tryd.func61, Tryd.ntmps61
  go_wp2
  go_ret
  exact ⟨rfl, rfl⟩
theorem rerr_any (w : World) (p : Value) (F : Nat → Prop) (s : Sta) (h : Rp w p F s) : Calls Tryd.prog 61 #[p] w fun e w' => e = .returned (.int .i64 ((dnE s : Nat) : Int)) ∧ w' = w := by
  rcases h with ⟨rfl, rfl, -⟩ | ⟨b, rfl, ⟨x, rfl, h⟩ | ⟨l, rfl, h⟩⟩
  · exact rerr_nil w
  · exact rerr_bad b x F w h
  · exact rerr_ok b F l w h
set_option maxRecDepth 100000 in
set_option maxHeartbeats 1000000 in
theorem rdone_any (w : World) (p : Value) (F : Nat → Prop) (s : Sta) (h : Rp w p F s) : Calls Tryd.prog 57 #[p] w fun e w' => e = .returned (.int .i64 ((rdE s : Nat) : Int)) ∧ w' = w := by
  have HR : Hid (Rp w p F s) := h
  have hE := rerr_any w p F s h
  cases s with
  | error x =>
    have hx : x ≠ 0 := by
      rcases h with ⟨rfl, e, -⟩ | ⟨b, rfl, ⟨x, e, h⟩ | ⟨l, e, h⟩⟩
      · cases e; omega
      · cases e; exact h.ne
      · cases e
    have hxI : ¬ (x : Int) = 0 := by omega
    have HE : Hid (Calls Tryd.prog 61 #[p] w fun e w' => e = .returned (.int .i64 ((x : Nat) : Int)) ∧ w' = w) := hE
    clear h hE hx
    go_enter Tryd.func57, Tryd.ntmps57
    go_wp2_with fail
    refine HE.out.mono ?_
    rintro e w1 ⟨rfl, rfl⟩
    go_wp2
    go_ret
    exact ⟨rfl, rfl⟩
  | ok l =>
    have HE : Hid (Calls Tryd.prog 61 #[p] w fun e w' => e = .returned (.int .i64 0) ∧ w' = w) := hE
    rcases h with ⟨rfl, e, -⟩ | ⟨b, rfl, ⟨x, e, h⟩ | ⟨l, e, h⟩⟩
    · cases e
    · cases e
    · cases e
      obtain ⟨v, c1, hb, -⟩ := h.c1
      obtain ⟨ad, cap, rfl, -, -⟩ := hb.len
      obtain ⟨n, hn⟩ : ∃ n, l.length = n := ⟨_, rfl⟩
      have HN : Hid (rdE (.ok l) = if n = 0 then 0 else 122) := by show rdE (.ok l) = _; rw [← hn]; rfl
      rw [hn] at c1
      clear h hb hn hE
      by_cases hz : n = 0
      · subst hz
        go_enter Tryd.func57, Tryd.ntmps57
        go_wp2_with fail
        refine HE.out.mono ?_
        rintro e w1 ⟨rfl, rfl⟩
        go_wp2
        go_ret
        exact ⟨by rw [HN.out]; rfl, rfl⟩
      · have hI : (0 : Int) < (n : Int) := by omega
        have HN2 : Hid (rdE (.ok l) = 122) := by show _ = _; rw [HN.out, if_neg hz]
        go_enter Tryd.func57, Tryd.ntmps57
        go_wp2_with fail
        refine HE.out.mono ?_
        rintro e w1 ⟨rfl, rfl⟩
        go_wp2
        go_ret
        exact ⟨by rw [HN2.out]; rfl, rfl⟩
set_option maxRecDepth 100000 in
set_option maxHeartbeats 1000000 in
theorem read_any (w : World) (v : Value) (l : List Nat) (h : Bs w v l) (hb : ∀ c ∈ l, c < 256) (hl : l.length ≤ 2000000) :
    Calls Tryd.prog 55 #[v] w fun e w' => ∃ p F, e = .returned p ∧ Rp w' p F (.ok l) ∧ (∀ k, F k → w.heap.size ≤ k) ∧ Below w.heap.size w w' := by
  have HB : Hid (Bs w v l ∧ (∀ c ∈ l, c < 256) ∧ l.length ≤ 2000000) := ⟨h, hb, hl⟩
  obtain ⟨ad, cap, rfl, -, -⟩ := h.len
  clear h hb hl
  go_enter Tryd.func55, Tryd.ntmps55
  go_wp2_with fail
  refine (clone_any w _ l HB.out.1 (by have := HB.out.2.2; omega)).mono ?_
  rintro e w1 ⟨v1, rfl, hO, hB⟩
  have HX : Hid (Bs w1 v1 l ∧ Ow w.heap.size v1 ∧ Below w.heap.size w w1) := ⟨hO.bs.1, hO.bs.2, hB⟩
  obtain ⟨ad1, cap1, rfl⟩ := hO.sl
  obtain ⟨n, hn⟩ : ∃ n, l.length = n := ⟨_, rfl⟩
  rw [hn] at HX
  clear hO hB
  rw [hn]
  clear hn
  go_wp2
  go_ret
  obtain ⟨x1, x2, x3⟩ := HX.out
  have hs := x3.size
  refine ⟨_, fun k => k = w1.heap.size ∨ ∃ a n' cap', Value.slice ad1 n cap1 = .slice (some a) n' cap' ∧ 0 < n' ∧ k = a.block, rfl, Or.inr ⟨w1.heap.size, rfl, Or.inr ⟨l, rfl, ?_⟩⟩, ?_, x3.alloc hs _⟩
  · refine ⟨?_, Or.inl rfl, by simp [go_sem], ⟨.slice ad1 n cap1, by simp [go_sem], x1.later (bel1 _ _), ?_⟩, by simp [go_sem], by simp [go_sem], by simp [go_sem], HB.out.2.1, by have := HB.out.2.2; omega⟩
    · intro k hk
      rw [World.size_alloc]
      rcases hk with rfl | ⟨a, n', cap', e, hp, rfl⟩
      · omega
      · have := x1.lo a n' cap' e hp
        omega
    · intro a n' cap' e hp
      refine ⟨Or.inr ⟨a, n', cap', e, hp, rfl⟩, ?_⟩
      have := x1.lo a n' cap' e hp
      omega
  · intro k hk
    rcases hk with rfl | ⟨a, n', cap', e, hp, rfl⟩
    · exact hs
    · exact x2 a n' cap' e hp
theorem opsS_recover {P : Program} {ops : Array Oper} {Q : Exit → Act → List Frame → World → Prop} {i : Nat} {rest : List Nat} {a : Act} {cs cs' : List Frame} {w : World} {o : Oper} {v : Value} (ho : ops[i]? = some o) (hw : Region.wanted o (yielded ops a.tmps) = true) (hr : (execOp a.eval o).run P w = .ok .recover w) (hc : recoverD cs = some (v, cs')) (h : wpOpsS P ops Q rest (a.put o.dst v) cs' w) : wpOpsS P ops Q (i :: rest) a cs w := by
  simp only [wpOpsS, ho, hw, hr, hc, if_true]
  exact h
theorem opsS_idle {P : Program} {ops : Array Oper} {Q : Exit → Act → List Frame → World → Prop} {i : Nat} {rest : List Nat} {a : Act} {cs : List Frame} {w : World} {o : Oper} (ho : ops[i]? = some o) (hw : Region.wanted o (yielded ops a.tmps) = true) (hr : (execOp a.eval o).run P w = .ok .recover w) (hc : recoverD cs = none) (h : wpOpsS P ops Q rest (a.put o.dst .nilIface) cs w) : wpOpsS P ops Q (i :: rest) a cs w := by
  simp only [wpOpsS, ho, hw, hr, hc, if_true]
  exact h
theorem opsS_val {P : Program} {ops : Array Oper} {Q : Exit → Act → List Frame → World → Prop} {i : Nat} {rest : List Nat} {a : Act} {cs : List Frame} {w : World} {o : Oper} (v : Value) (ho : ops[i]? = some o) (hw : Region.wanted o (yielded ops a.tmps) = true) (hr : (execOp a.eval o).run P w = .ok (.value v) w) (h : wpOpsS P ops Q rest (a.put o.dst v) cs w) : wpOpsS P ops Q (i :: rest) a cs w := by
  simp only [wpOpsS, ho, hw, hr, if_true]
  exact h
theorem asErrno (v : Value) (xT : TypeId) (w : World) : (Instr.typeAssert (.iface 28 v) xT 28 false).run Tryd.prog w = .ok v w := by
  have hu : (underlying 28).run Tryd.prog w = .ok (.int .i64) w := by
    first | exact run_underlying Tryd.underlying28 w | (unfold underlying; simp [go_sem, Tryd.underlying28])
  unfold Instr.typeAssert
  rw [Sem.run_bind, hu]
  rfl
/-- A reader's box as the catch leaves it. -/
def Cx (b : Nat) (e : Int) (w w' : World) : Prop := Kp (fun i => i = b) w w' ∧ w'.cell? ⟨b, 0, none⟩ = some (.bool true) ∧ w'.cell? ⟨b, 2, none⟩ = some (.int .i64 e)
end Go.Proofs.YtfcbgkcclganmaaDoor
