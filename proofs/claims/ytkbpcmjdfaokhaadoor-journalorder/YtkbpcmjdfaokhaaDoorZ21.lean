/-
Layer 15: the program's disk and the document's, side by side.
Layer 17: what the journal must give; the program's journal and the document's, side by side.
Layer 17: a journal's bounds through an Append.
-/
import Derived.Test.YtkbpcmjdfaokhaaDoorZ20
import Derived.Test.YtkbpcmjdfaokhaaDoorZ06
import Derived.Test.YtkbpcmjdfaokhaaDoorZ19
import Derived.Test.YtkbpcmjdfaokhaaDoorZ15

set_option linter.unusedVariables false
set_option linter.unusedSimpArgs false
namespace Go.Proofs.YtkbpcmjdfaokhaaDoor
open Go.RowKit

/-- Both disks, apart from each other and from some other blocks. -/
def D2 (V : Disk1) (w0 w : World) (d r : Value) (s t : Dsk) (N : Nat → Prop) : Prop :=
  ∃ F G : Nat → Prop, V.Dt w d F s ∧ RD w r G t ∧ (∀ k, F k → w0.heap.size ≤ k) ∧ (∀ k, G k → w0.heap.size ≤ k) ∧ (∀ k, F k → ¬ G k) ∧ (∀ k, N k → ¬ F k ∧ ¬ G k ∧ w0.heap.size ≤ k ∧ k < w.heap.size) ∧ Below w0.heap.size w0 w
/-- These blocks are as they were. -/
def Kn (N : Nat → Prop) (w w' : World) : Prop := ∀ k, N k → w'.heap[k]? = w.heap[k]?
/-- A list that is older than both, or lies in one of the other blocks. -/
def Ou (B : Nat) (N : Nat → Prop) (v : Value) : Prop := ∀ (a : Addr) (n cap : Nat), v = .slice (some a) n cap → 0 < n → a.block < B ∨ N a.block
theorem Ou.up {B : Nat} {N N' : Nat → Prop} {v : Value} (h : Ou B N v) (k : ∀ k, N k → N' k) : Ou B N' v := fun a n c e hn => (h a n c e hn).imp id (k _)
theorem Lo.ou {B : Nat} {N : Nat → Prop} {v : Value} (h : Lo B v) : Ou B N v := fun a n c e hn => Or.inl (h a n c e hn)
theorem D2.bel {V : Disk1} {w0 w : World} {d r : Value} {s t : Dsk} {N : Nat → Prop} (h : D2 V w0 w d r s t N) : Below w0.heap.size w0 w := by
  obtain ⟨F, G, -, -, -, -, -, -, h⟩ := h
  exact h
theorem D2.weak {V : Disk1} {w0 w : World} {d r : Value} {s t : Dsk} {N N' : Nat → Prop} (h : D2 V w0 w d r s t N) (k : ∀ k, N' k → N k) : D2 V w0 w d r s t N' := by
  obtain ⟨F, G, h1, h2, h3, h4, h5, h6, h7⟩ := h
  exact ⟨F, G, h1, h2, h3, h4, h5, fun i hi => h6 i (k i hi), h7⟩
/-- New blocks are apart from both. -/
theorem D2.later {V : Disk1} {w0 w w' : World} {d r : Value} {s t : Dsk} {N : Nat → Prop} (h : D2 V w0 w d r s t N) (k : Below w.heap.size w w') : D2 V w0 w' d r s t (fun i => N i ∨ (w.heap.size ≤ i ∧ i < w'.heap.size)) := by
  obtain ⟨F, G, h1, h2, h3, h4, h5, h6, h7⟩ := h
  have hs := k.size
  refine ⟨F, G, V.dtK h1 (fun i hi => k.block i (V.dtB h1 i hi)) k.size, h2.later k, h3, h4, h5, fun i hi => ?_, bchain h7 k⟩
  rcases hi with q | q
  · obtain ⟨a, b, c, e⟩ := h6 i q
    exact ⟨a, b, c, by omega⟩
  · exact ⟨fun e => by have := V.dtB h1 i e; omega, fun e => by have := h2.lt i e; omega, by have := h7.size; omega, q.2⟩
/-- A cell of one of the other blocks is written. -/
theorem D2.set {V : Disk1} {w0 w : World} {d r : Value} {s t : Dsk} {N : Nat → Prop} (h : D2 V w0 w d r s t N) {p : Addr} (hp : N p.block) (u : Value) : D2 V w0 (w.setCell p u) d r s t N := by
  obtain ⟨F, G, h1, h2, h3, h4, h5, h6, h7⟩ := h
  obtain ⟨q1, q2, q3, q4⟩ := h6 _ hp
  have o : ∀ k, k ≠ p.block → (w.setCell p u).heap[k]? = w.heap[k]? := fun k hk => Below.heap_setCell _ _ _ _ hk
  refine ⟨F, G, V.dtK h1 (fun i hi => o i (fun e => q1 (by rw [← e]; exact hi))) (by rw [World.size_setCell]; exact Nat.le_refl _), h2.kept (fun i hi => o i (fun e => q2 (by rw [← e]; exact hi))) (by rw [World.size_setCell]; exact Nat.le_refl _), h3, h4, h5, fun i hi => ?_, h7.setCell q3 u⟩
  rw [World.size_setCell]
  exact h6 i hi
theorem D2.nextD {V : Disk1} {w0 w w' : World} {d r : Value} {s s' t : Dsk} {N F G : Nat → Prop} (h1 : V.Dt w d F s) (h2 : RD w r G t) (h3 : ∀ k, F k → w0.heap.size ≤ k) (h4 : ∀ k, G k → w0.heap.size ≤ k) (h5 : ∀ k, F k → ¬ G k) (h6 : ∀ k, N k → ¬ F k ∧ ¬ G k ∧ w0.heap.size ≤ k ∧ k < w.heap.size) (h7 : Below w0.heap.size w0 w) (h : Ad V.Dt d F s' w w') : D2 V w0 w' d r s' t N ∧ Kn N w w' := by
  obtain ⟨F', q1, q2, q3⟩ := h
  have hB := h7.size
  refine ⟨⟨F', G, q1, h2.kept (fun k hk => q3.block k (h2.lt k hk) (fun e => h5 k e hk)) q3.size, fun k hk => ?_, h4, fun k hk hg => ?_, fun k hk => ?_, q3.next h7 h3 hB⟩, fun k hk => q3.block k (h6 k hk).2.2.2 (h6 k hk).1⟩
  · rcases q2 k hk with q | q
    · exact h3 k q
    · omega
  · rcases q2 k hk with q | q
    · exact h5 k q hg
    · have := h2.lt k hg; omega
  · obtain ⟨a, b, c, e⟩ := h6 k hk
    refine ⟨fun q => ?_, b, c, Nat.lt_of_lt_of_le e q3.size⟩
    rcases q2 k q with q | q
    · exact a q
    · omega
theorem D2.nextR {V : Disk1} {w0 w w' : World} {d r : Value} {s t t' : Dsk} {N F G : Nat → Prop} (h1 : V.Dt w d F s) (h2 : RD w r G t) (h3 : ∀ k, F k → w0.heap.size ≤ k) (h4 : ∀ k, G k → w0.heap.size ≤ k) (h5 : ∀ k, F k → ¬ G k) (h6 : ∀ k, N k → ¬ F k ∧ ¬ G k ∧ w0.heap.size ≤ k ∧ k < w.heap.size) (h7 : Below w0.heap.size w0 w) (h : Ad RD r G t' w w') : D2 V w0 w' d r s t' N ∧ Kn N w w' := by
  obtain ⟨G', q1, q2, q3⟩ := h
  have hB := h7.size
  refine ⟨⟨F, G', V.dtK h1 (fun k hk => q3.block k (V.dtB h1 k hk) (fun e => h5 k hk e)) q3.size, q1, h3, fun k hk => ?_, fun k hf hk => ?_, fun k hk => ?_, q3.next h7 h4 hB⟩, fun k hk => q3.block k (h6 k hk).2.2.2 (h6 k hk).2.1⟩
  · rcases q2 k hk with q | q
    · exact h4 k q
    · omega
  · rcases q2 k hk with q | q
    · exact h5 k hf q
    · have := V.dtB h1 k hf; omega
  · obtain ⟨a, b, c, e⟩ := h6 k hk
    refine ⟨a, fun q => ?_, c, Nat.lt_of_lt_of_le e q3.size⟩
    rcases q2 k q with q | q
    · exact b q
    · omega
theorem ou_nf {V : Disk1} {w0 : World} {N F : Nat → Prop} {v : Value} (ho : Ou w0.heap.size N v) (h3 : ∀ k, F k → w0.heap.size ≤ k) (h6 : ∀ k, N k → ¬ F k) : Nf F v := fun a n c e hn q => by
  rcases ho a n c e hn with x | x
  · have := h3 _ q; omega
  · exact h6 _ x q
/-! The calls. -/
theorem d2WrD {V : Disk1} {w0 w : World} {d r : Value} {s t : Dsk} {N : Nat → Prop} (h : D2 V w0 w d r s t N) (i : Int) {v : Value} {b : List Nat} (hv : Bs w v b) (ho : Ou w0.heap.size N v) (hb : ∀ c ∈ b, c < 256) (hl : b.length ≤ 2000000) (hu : s.un.length ≤ 1000) : Calls Tryd.prog 29 #[d, .int .i64 i, v] w fun e w' => e = .returned (.int .i64 ((wrE s i b : Nat) : Int)) ∧ D2 V w0 w' d r (wrS s i b) t N ∧ Kn N w w' := by
  obtain ⟨F, G, h1, h2, h3, h4, h5, h6, h7⟩ := h
  exact (V.write w d F s i v b h1 hv (ou_nf (V := V) ho h3 (fun k hk => (h6 k hk).1)) hb hl hu).mono fun e w' ⟨q1, q2⟩ => ⟨q1, D2.nextD h1 h2 h3 h4 h5 h6 h7 q2⟩
theorem d2WrR {V : Disk1} {w0 w : World} {d r : Value} {s t : Dsk} {N : Nat → Prop} (h : D2 V w0 w d r s t N) (i : Int) {v : Value} {b : List Nat} (hv : Bs w v b) (hb : ∀ c ∈ b, c < 256) (hu : t.un.length ≤ 1000) : Calls Tryd.prog 30 #[r, .int .i64 i, v] w fun e w' => e = .returned (.int .i64 ((wrE t i b : Nat) : Int)) ∧ D2 V w0 w' d r s (wrS t i b) N ∧ Kn N w w' := by
  obtain ⟨F, G, h1, h2, h3, h4, h5, h6, h7⟩ := h
  exact (refWrite h2 i v b hv hb hu).mono fun e w' ⟨q1, q2⟩ => ⟨q1, D2.nextR h1 h2 h3 h4 h5 h6 h7 q2⟩
theorem d2FlD {V : Disk1} {w0 w : World} {d r : Value} {s t : Dsk} {N : Nat → Prop} (h : D2 V w0 w d r s t N) (hu : s.un.length ≤ 1000) : Calls Tryd.prog 31 #[d] w fun e w' => e = .returned (.int .i64 ((flE s : Nat) : Int)) ∧ D2 V w0 w' d r (flS s) t N ∧ Kn N w w' := by
  obtain ⟨F, G, h1, h2, h3, h4, h5, h6, h7⟩ := h
  exact (V.flush w d F s h1 hu).mono fun e w' ⟨q1, q2⟩ => ⟨q1, D2.nextD h1 h2 h3 h4 h5 h6 h7 q2⟩
theorem d2FlR {V : Disk1} {w0 w : World} {d r : Value} {s t : Dsk} {N : Nat → Prop} (h : D2 V w0 w d r s t N) (hu : t.un.length ≤ 1000) : Calls Tryd.prog 32 #[r] w fun e w' => e = .returned (.int .i64 ((flE t : Nat) : Int)) ∧ D2 V w0 w' d r s (flS t) N ∧ Kn N w w' := by
  obtain ⟨F, G, h1, h2, h3, h4, h5, h6, h7⟩ := h
  exact (refFlush h2 (by omega)).mono fun e w' ⟨q1, q2⟩ => ⟨q1, D2.nextR h1 h2 h3 h4 h5 h6 h7 q2⟩
theorem d2ArD {V : Disk1} {w0 w : World} {d r : Value} {s t : Dsk} {N : Nat → Prop} (h : D2 V w0 w d r s t N) (n : Int) (hn : Bd64 n) : Calls Tryd.prog 19 #[d, .int .i64 n] w fun e w' => e = .returned (.tuple #[]) ∧ D2 V w0 w' d r (arS s n) t N ∧ Kn N w w' := by
  obtain ⟨F, G, h1, h2, h3, h4, h5, h6, h7⟩ := h
  exact (V.arm w d F s n h1 hn).mono fun e w' ⟨q1, q2⟩ => ⟨q1, D2.nextD h1 h2 h3 h4 h5 h6 h7 q2⟩
theorem d2ArR {V : Disk1} {w0 w : World} {d r : Value} {s t : Dsk} {N : Nat → Prop} (h : D2 V w0 w d r s t N) (n : Int) (hn : Bd64 n) : Calls Tryd.prog 26 #[r, .int .i64 n] w fun e w' => e = .returned (.tuple #[]) ∧ D2 V w0 w' d r s (arS t n) N ∧ Kn N w w' := by
  obtain ⟨F, G, h1, h2, h3, h4, h5, h6, h7⟩ := h
  exact (refArm h2 n hn).mono fun e w' ⟨q1, q2⟩ => ⟨q1, D2.nextR h1 h2 h3 h4 h5 h6 h7 q2⟩
theorem d2CrD {V : Disk1} {w0 w : World} {d r : Value} {s t : Dsk} {N : Nat → Prop} (h : D2 V w0 w d r s t N) {v : Value} {fs : List (Int × Int)} (hv : Fts w v fs) (ho : Ou w0.heap.size N v) (hl : fs.length ≤ 1000) (hu : s.un.length ≤ 1000) : Calls Tryd.prog 20 #[d, v] w fun e w' => e = .returned (.int .i64 0) ∧ D2 V w0 w' d r (crS s fs) t N ∧ Kn N w w' := by
  obtain ⟨F, G, h1, h2, h3, h4, h5, h6, h7⟩ := h
  exact (V.crash w d F s v fs h1 hv (ou_nf (V := V) ho h3 (fun k hk => (h6 k hk).1)) hl hu).mono fun e w' ⟨q1, q2⟩ => ⟨q1, D2.nextD h1 h2 h3 h4 h5 h6 h7 q2⟩
theorem d2CrR {V : Disk1} {w0 w : World} {d r : Value} {s t : Dsk} {N : Nat → Prop} (h : D2 V w0 w d r s t N) {v : Value} {fs : List (Int × Int)} (hv : Fts w v fs) (ho : Ou w0.heap.size N v) (hu : t.un.length ≤ 1000) : Calls Tryd.prog 27 #[r, v] w fun e w' => e = .returned (.tuple #[]) ∧ D2 V w0 w' d r s (crS t fs) N ∧ Kn N w w' := by
  obtain ⟨F, G, h1, h2, h3, h4, h5, h6, h7⟩ := h
  exact (refCrash h2 v fs hv (ou_nf (V := V) ho h4 (fun k hk => (h6 k hk).2.1)) (by omega)).mono fun e w' ⟨q1, q2⟩ => ⟨q1, D2.nextR h1 h2 h3 h4 h5 h6 h7 q2⟩
theorem d2RdD {V : Disk1} {w0 w : World} {d r : Value} {s t : Dsk} {N : Nat → Prop} (h : D2 V w0 w d r s t N) (i : Int) : Calls Tryd.prog 59 #[d, .int .i64 i] w fun e w' => ∃ v, e = .returned (.tuple #[v, .int .i64 ((dAsk s i : Nat) : Int)]) ∧ Bs w' v (rdB s i) ∧ (Ow w.heap.size v ∧ Uf w' v) ∧ Below w.heap.size w w' := by
  obtain ⟨F, G, h1, h2, h3, h4, h5, h6, h7⟩ := h
  exact V.read w d F s i h1
theorem d2RdR {V : Disk1} {w0 w : World} {d r : Value} {s t : Dsk} {N : Nat → Prop} (h : D2 V w0 w d r s t N) (i : Int) (hu : t.un.length ≤ 1000) : Calls Tryd.prog 63 #[r, .int .i64 i] w fun e w' => ∃ v, e = .returned (.tuple #[v, .int .i64 ((dAsk t i : Nat) : Int)]) ∧ Bs w v (rdB t i) ∧ w' = w := by
  obtain ⟨F, G, h1, h2, h3, h4, h5, h6, h7⟩ := h
  exact refRead h2 i (by omega)
theorem d2Safe {V : Disk1} {w0 w : World} {d r : Value} {s t : Dsk} {N : Nat → Prop} (h : D2 V w0 w d r s t N) (i : Nat) (hi : i < s.bl.length) : Calls Tryd.prog 33 #[d, .int .i64 (i : Int)] w fun e w' => ∃ v, e = .returned (.tuple #[v, .int .i64 0]) ∧ Bs w' v (s.bl.getD i []) ∧ Ow w.heap.size v ∧ Below w.heap.size w w' := by
  obtain ⟨F, G, h1, h2, h3, h4, h5, h6, h7⟩ := h
  exact V.safeY w d F s i h1 hi
theorem d2SafeN {V : Disk1} {w0 w : World} {d r : Value} {s t : Dsk} {N : Nat → Prop} (h : D2 V w0 w d r s t N) (i : Int) (hi : i < 0 ∨ (s.bl.length : Int) ≤ i) : Calls Tryd.prog 33 #[d, .int .i64 i] w fun e w' => ∃ v, e = .returned (.tuple #[v, .int .i64 151]) ∧ Bs w' v [] ∧ Below w.heap.size w w' := by
  obtain ⟨F, G, h1, h2, h3, h4, h5, h6, h7⟩ := h
  exact V.safeN w d F s i h1 hi
theorem d2Down {V : Disk1} {w0 w : World} {d r : Value} {s t : Dsk} {N : Nat → Prop} (h : D2 V w0 w d r s t N) : Calls Tryd.prog 35 #[d] w fun e w' => e = .returned (.bool s.dn) ∧ Below w.heap.size w w' := by
  obtain ⟨F, G, h1, h2, h3, h4, h5, h6, h7⟩ := h
  exact V.down w d F s h1
/-- What the document's disk holds, for a reader. -/
theorem D2.ref {V : Disk1} {w0 w : World} {d r : Value} {s t : Dsk} {N : Nat → Prop} (h : D2 V w0 w d r s t N) : ∃ (b : Nat) (vB vU : Value) (cs ds : List Value) (G : Nat → Prop), r = .pointer (some ⟨b, 0, none⟩) ∧ Rd5 w b vB vU cs ds G t := by
  obtain ⟨F, G, h1, h2, h3, h4, h5, h6, h7⟩ := h
  obtain ⟨b, vB, vU, cs, ds, e, hR, -⟩ := h2
  exact ⟨b, vB, vU, cs, ds, G, e, hR⟩
end Go.Proofs.YtkbpcmjdfaokhaaDoor
set_option linter.unusedVariables false
set_option linter.unusedSimpArgs false
namespace Go.Proofs.YtkbpcmjdfaokhaaDoor
open Go.RowKit

/-- What lies in memory, by its own blocks. -/
structure Owns (T : World → (Nat → Prop) → Prop) : Prop where
  lt : ∀ {w : World} {F : Nat → Prop}, T w F → ∀ k, F k → k < w.heap.size
  kept : ∀ {w w' : World} {F : Nat → Prop}, T w F → (∀ k, F k → w'.heap[k]? = w.heap[k]?) → w.heap.size ≤ w'.heap.size → T w' F
theorem Owns.later {T : World → (Nat → Prop) → Prop} (o : Owns T) {w w' : World} {F : Nat → Prop} (h : T w F) (k : Below w.heap.size w w') : T w' F := o.kept h (fun i hi => k.block i (o.lt h i hi)) k.size
/-- What a call leaves. -/
def Nx (T : World → (Nat → Prop) → Prop) (F : Nat → Prop) (w w' : World) : Prop := ∃ F' : Nat → Prop, T w' F' ∧ Gr F F' w ∧ Kp F w w'
/-- Two, apart from each other and from some other blocks. -/
def P2 (S T : World → (Nat → Prop) → Prop) (w0 w : World) (N : Nat → Prop) : Prop :=
  ∃ F G : Nat → Prop, S w F ∧ T w G ∧ (∀ k, F k → w0.heap.size ≤ k) ∧ (∀ k, G k → w0.heap.size ≤ k) ∧ (∀ k, F k → ¬ G k) ∧ (∀ k, N k → ¬ F k ∧ ¬ G k ∧ w0.heap.size ≤ k ∧ k < w.heap.size) ∧ Below w0.heap.size w0 w
/-- Nothing. -/
def Nil2 : World → (Nat → Prop) → Prop := fun _ F => ∀ k, ¬ F k
theorem owns_nil : Owns Nil2 := ⟨fun h k hk => absurd hk (h k), fun h _ _ => h⟩
theorem P2.swap {S T : World → (Nat → Prop) → Prop} {w0 w : World} {N : Nat → Prop} (h : P2 S T w0 w N) : P2 T S w0 w N := by
  obtain ⟨F, G, h1, h2, h3, h4, h5, h6, h7⟩ := h
  exact ⟨G, F, h2, h1, h4, h3, fun k hg hf => h5 k hf hg, fun k hk => ⟨(h6 k hk).2.1, (h6 k hk).1, (h6 k hk).2.2⟩, h7⟩
theorem P2.bel {S T : World → (Nat → Prop) → Prop} {w0 w : World} {N : Nat → Prop} (h : P2 S T w0 w N) : Below w0.heap.size w0 w := by
  obtain ⟨F, G, -, -, -, -, -, -, h⟩ := h
  exact h
theorem P2.weak {S T : World → (Nat → Prop) → Prop} {w0 w : World} {N N' : Nat → Prop} (h : P2 S T w0 w N) (k : ∀ k, N' k → N k) : P2 S T w0 w N' := by
  obtain ⟨F, G, h1, h2, h3, h4, h5, h6, h7⟩ := h
  exact ⟨F, G, h1, h2, h3, h4, h5, fun i hi => h6 i (k i hi), h7⟩
theorem P2.later {S T : World → (Nat → Prop) → Prop} (oS : Owns S) (oT : Owns T) {w0 w w' : World} {N : Nat → Prop} (h : P2 S T w0 w N) (k : Below w.heap.size w w') : P2 S T w0 w' (fun i => N i ∨ (w.heap.size ≤ i ∧ i < w'.heap.size)) := by
  obtain ⟨F, G, h1, h2, h3, h4, h5, h6, h7⟩ := h
  have hs := k.size
  refine ⟨F, G, oS.later h1 k, oT.later h2 k, h3, h4, h5, fun i hi => ?_, bchain h7 k⟩
  rcases hi with q | q
  · obtain ⟨a, b, c, e⟩ := h6 i q
    exact ⟨a, b, c, by omega⟩
  · exact ⟨fun e => by have := oS.lt h1 i e; omega, fun e => by have := oT.lt h2 i e; omega, by have := h7.size; omega, q.2⟩
theorem P2.set {S T : World → (Nat → Prop) → Prop} (oS : Owns S) (oT : Owns T) {w0 w : World} {N : Nat → Prop} (h : P2 S T w0 w N) {p : Addr} (hp : N p.block) (u : Value) : P2 S T w0 (w.setCell p u) N := by
  obtain ⟨F, G, h1, h2, h3, h4, h5, h6, h7⟩ := h
  obtain ⟨q1, q2, q3, q4⟩ := h6 _ hp
  have o : ∀ k, k ≠ p.block → (w.setCell p u).heap[k]? = w.heap[k]? := fun k hk => Below.heap_setCell _ _ _ _ hk
  refine ⟨F, G, oS.kept h1 (fun i hi => o i (fun e => q1 (by rw [← e]; exact hi))) (by rw [World.size_setCell]; exact Nat.le_refl _), oT.kept h2 (fun i hi => o i (fun e => q2 (by rw [← e]; exact hi))) (by rw [World.size_setCell]; exact Nat.le_refl _), h3, h4, h5, fun i hi => ?_, h7.setCell q3 u⟩
  rw [World.size_setCell]
  exact h6 i hi
/-- The first is called. -/
theorem P2.left {S T : World → (Nat → Prop) → Prop} (oT : Owns T) {w0 w : World} {N : Nat → Prop} (h : P2 S T w0 w N) : ∃ F, S w F ∧ (∀ k, F k → w0.heap.size ≤ k) ∧ (∀ k, N k → ¬ F k) ∧ ∀ (S' : World → (Nat → Prop) → Prop) (w' : World), Nx S' F w w' → P2 S' T w0 w' N ∧ Kn N w w' := by
  obtain ⟨F, G, h1, h2, h3, h4, h5, h6, h7⟩ := h
  refine ⟨F, h1, h3, fun k hk => (h6 k hk).1, fun S' w' hn => ?_⟩
  obtain ⟨F', q1, q2, q3⟩ := hn
  have hB := h7.size
  refine ⟨⟨F', G, q1, oT.kept h2 (fun k hk => q3.block k (oT.lt h2 k hk) (fun e => h5 k e hk)) q3.size, fun k hk => ?_, h4, fun k hk hg => ?_, fun k hk => ?_, q3.next h7 h3 hB⟩, fun k hk => q3.block k (h6 k hk).2.2.2 (h6 k hk).1⟩
  · rcases q2 k hk with q | q
    · exact h3 k q
    · omega
  · rcases q2 k hk with q | q
    · exact h5 k q hg
    · have := oT.lt h2 k hg; omega
  · obtain ⟨a, b, c, e⟩ := h6 k hk
    refine ⟨fun q => ?_, b, c, Nat.lt_of_lt_of_le e q3.size⟩
    rcases q2 k q with q | q
    · exact a q
    · omega
theorem nf_ou {F N : Nat → Prop} {B : Nat} {v : Value} (h : Ou B N v) (h1 : ∀ k, F k → B ≤ k) (h2 : ∀ k, N k → ¬ F k) : Nf F v := fun a n c e hn q => by
  rcases h a n c e hn with l | l
  · have := h1 _ q; omega
  · exact h2 _ l q
/-- The contracts of journal over a disk: J a journal, G the blocks that are its own. -/
structure Jour1 (V : Disk1) where
  Jt : World → Value → Value → (Nat → Prop) → Nat → Nat → Jst → Prop
  jtK : ∀ {w w' : World} {q d : Value} {G : Nat → Prop} {base size : Nat} {j : Jst}, Jt w q d G base size j → (∀ k, G k → w'.heap[k]? = w.heap[k]?) → w.heap.size ≤ w'.heap.size → Jt w' q d G base size j
  jtB : ∀ {w : World} {q d : Value} {G : Nat → Prop} {base size : Nat} {j : Jst}, Jt w q d G base size j → ∀ k, G k → k < w.heap.size
  newY : ∀ (w : World) (d : Value) (F : Nat → Prop) (s : Dsk) (base size : Nat), V.Dt w d F s → 1 ≤ size → base + size ≤ s.bl.length →
    Calls Tryd.prog 10 #[d, .int .i64 (base : Int), .int .i64 (size : Int)] w fun e w' => ∃ a G, e = .returned (.tuple #[.pointer (some a), .int .i64 0]) ∧ Jt w' (.pointer (some a)) d G base size ⟨0, 0, 0⟩ ∧ (∀ k, G k → w.heap.size ≤ k) ∧ Below w.heap.size w w'
  newN : ∀ (w : World) (d : Value) (F : Nat → Prop) (s : Dsk) (base size : Int), V.Dt w d F s → Bd64 base → Bd64 size → ¬ (1 ≤ size ∧ 0 ≤ base ∧ base + size ≤ (s.bl.length : Int)) →
    Calls Tryd.prog 10 #[d, .int .i64 base, .int .i64 size] w fun e w' => e = .returned (.tuple #[.pointer none, .int .i64 2]) ∧ Below w.heap.size w w'
  read : ∀ (w : World) (q d : Value) (F G : Nat → Prop) (s : Dsk) (base size : Nat) (j : Jst) (gen : Int), Jt w q d G base size j → V.Dt w d F s → (∀ k, F k → ¬ G k) → JT w → base + size ≤ s.bl.length → s.bl.length ≤ 1000 → s.un.length ≤ 400 → Bd64 gen →
    Calls Tryd.prog 16 #[q, .int .i64 gen] w fun e w' => ∃ v, e = .returned (.tuple #[v, .int .i64 ((rdE17 s gen : Nat) : Int)]) ∧ Txs w' v (rdL17 s base size gen) ∧ Below w.heap.size w w'
  begin : ∀ (w : World) (q d : Value) (F G : Nat → Prop) (s : Dsk) (base size : Nat) (j : Jst) (gen : Int), Jt w q d G base size j → V.Dt w d F s → (∀ k, F k → ¬ G k) → Bd64 gen →
    Calls Tryd.prog 17 #[q, .int .i64 gen] w fun e w' => e = .returned (.int .i64 ((if gen < 1 then 2 else 0 : Nat) : Int)) ∧ Nx (fun w' G => Jt w' q d G base size (if gen < 1 then j else ⟨gen.toNat, 0, 0⟩)) G w w'
  append : ∀ (w : World) (q d : Value) (F G : Nat → Prop) (s : Dsk) (base size : Nat) (j : Jst) (v : Value) (r : List Nat), Jt w q d G base size j → V.Dt w d F s → (∀ k, F k → ¬ G k) → JT w → (∀ k, F k → k ≠ 0) → (∀ k, G k → k ≠ 0) → base + size ≤ s.bl.length → s.bl.length ≤ 900 → s.un.length ≤ 100 → j.next ≤ size → j.n ≤ 1000000 → j.gen < 9223372036854775808 → Bs w v r → Nf F v → Nf G v → (∀ x ∈ r, x < 256) → r.length ≤ 1000000 →
    Calls Tryd.prog 18 #[q, v] w fun e w' => e = .returned (.int .i64 (((japp s base size j r).1 : Nat) : Int)) ∧ ∃ F' G', V.Dt w' d F' (japp s base size j r).2.1 ∧ Jt w' q d G' base size (japp s base size j r).2.2 ∧ (∀ k, F' k → ¬ G' k) ∧ Gr F F' w ∧ Gr G G' w ∧ Kp (fun k => F k ∨ G k) w w'
  left : ∀ (w : World) (q d : Value) (F G : Nat → Prop) (s : Dsk) (base size : Nat) (j : Jst), Jt w q d G base size j → V.Dt w d F s → j.next ≤ size →
    Calls Tryd.prog 15 #[q] w fun e w' => e = .returned (.int .i64 ((if j.gen = 0 then 0 else size - j.next : Nat) : Int)) ∧ Below w.heap.size w w'
/-- The program's disk with its journal. -/
def JD (V : Disk1) (J : Jour1 V) (d q : Value) (base size : Nat) (s : Dsk) (j : Jst) : World → (Nat → Prop) → Prop := fun w A => ∃ F G : Nat → Prop, V.Dt w d F s ∧ J.Jt w q d G base size j ∧ (∀ k, F k → ¬ G k) ∧ A = fun k => F k ∨ G k
/-- The document's. -/
def JR (r : Value) (c : Nat) (base size : Nat) (s : Dsk) (j : Jst) : World → (Nat → Prop) → Prop := fun w A => ∃ H : Nat → Prop, RD w r H s ∧ RJ w c r base size j ∧ ¬ H c ∧ A = fun k => H k ∨ k = c
theorem jd_owns (V : Disk1) (J : Jour1 V) (d q : Value) (base size : Nat) (s : Dsk) (j : Jst) : Owns (JD V J d q base size s j) where
  lt := by
    rintro w A ⟨F, G, h1, h2, h3, rfl⟩ k (hk | hk)
    · exact V.dtB h1 k hk
    · exact J.jtB h2 k hk
  kept := by
    rintro w w' A ⟨F, G, h1, h2, h3, rfl⟩ hk hs
    exact ⟨F, G, V.dtK h1 (fun k q => hk k (Or.inl q)) hs, J.jtK h2 (fun k q => hk k (Or.inr q)) hs, h3, rfl⟩
theorem jr_owns (r : Value) (c base size : Nat) (s : Dsk) (j : Jst) : Owns (JR r c base size s j) where
  lt := by
    rintro w A ⟨H, h1, h2, h3, rfl⟩ k (hk | rfl)
    · exact h1.lt k hk
    · exact h2.lt
  kept := by
    rintro w w' A ⟨H, h1, h2, h3, rfl⟩ hk hs
    exact ⟨H, h1.kept (fun k q => hk k (Or.inl q)) hs, h2.kept (hk c (Or.inr rfl)), h3, rfl⟩
/-- The disk alone is called. -/
theorem jd_disk {V : Disk1} {J : Jour1 V} {d q : Value} {base size : Nat} {s' : Dsk} {j : Jst} {w w' : World} {F G : Nat → Prop} (h2 : J.Jt w q d G base size j) (h3 : ∀ k, F k → ¬ G k) (h : Ad V.Dt d F s' w w') : Nx (JD V J d q base size s' j) (fun k => F k ∨ G k) w w' := by
  obtain ⟨F', q1, q2, q3⟩ := h
  refine ⟨fun k => F' k ∨ G k, ⟨F', G, q1, J.jtK h2 (fun k hk => q3.block k (J.jtB h2 k hk) (fun e => h3 k e hk)) q3.size, fun k hk hg => ?_, rfl⟩, fun k hk => ?_, q3.mono (fun _ h => Or.inl h)⟩
  · rcases q2 k hk with e | e
    · exact h3 k e hg
    · have := J.jtB h2 k hg; omega
  · rcases hk with hk | hk
    · rcases q2 k hk with e | e
      · exact Or.inl (Or.inl e)
      · exact Or.inr e
    · exact Or.inl (Or.inr hk)
theorem jr_disk {r : Value} {c base size : Nat} {s' : Dsk} {j : Jst} {w w' : World} {H : Nat → Prop} (h2 : RJ w c r base size j) (h3 : ¬ H c) (h : Ad RD r H s' w w') : Nx (JR r c base size s' j) (fun k => H k ∨ k = c) w w' := by
  obtain ⟨F', q1, q2, q3⟩ := h
  refine ⟨fun k => F' k ∨ k = c, ⟨F', q1, h2.kept (q3.block c h2.lt h3), fun hk => ?_, rfl⟩, fun k hk => ?_, q3.mono (fun _ h => Or.inl h)⟩
  · rcases q2 c hk with e | e
    · exact h3 e
    · have := h2.lt; omega
  · rcases hk with hk | hk
    · rcases q2 k hk with e | e
      · exact Or.inl (Or.inl e)
      · exact Or.inr e
    · exact Or.inl (Or.inr hk)
end Go.Proofs.YtkbpcmjdfaokhaaDoor
set_option linter.unusedVariables false
set_option linter.unusedSimpArgs false
namespace Go.Proofs.YtkbpcmjdfaokhaaDoor
open Go.RowKit

theorem jwr_jq (p : Nat) (r : List Nat) (n gen : Nat) : ∀ (k i : Nat) (s : Dsk), s.dn = false → p + i + k ≤ s.bl.length → ((jwr p r n gen k i s).1 = 0 ∧ (jwr p r n gen k i s).2.dn = false ∨ (jwr p r n gen k i s).1 ≠ 0 ∧ (jwr p r n gen k i s).2.dn = true) ∧ (jwr p r n gen k i s).2.bl.length = s.bl.length ∧ (jwr p r n gen k i s).2.un.length ≤ s.un.length + k := by
  intro k
  induction k with
  | zero => intro i s hd _; exact ⟨Or.inl ⟨rfl, hd⟩, rfl, Nat.le_refl _⟩
  | succ k ih =>
    intro i s hd hl
    have h1 := bl_wr s ((p + i : Nat) : Int) (jblk r i n gen)
    obtain ⟨-, -, w3⟩ := wr_step (s := s) (i := p + i) (b := jblk r i n gen) hd (by omega) (by rw [jblk_len]; omega)
    rw [jwr_next]
    by_cases q : wrE s ((p + i : Nat) : Int) (jblk r i n gen) ≠ 0
    · rw [if_pos q]
      refine ⟨Or.inr ⟨q, ?_⟩, h1.1, by have := h1.2; dsimp only; omega⟩
      rcases w3 with w3 | w3
      · exact wrE_down w3
      · exact absurd w3.1 q
    · rw [if_neg q]
      have hd2 : (wrS s ((p + i : Nat) : Int) (jblk r i n gen)).dn = false := by
        rcases w3 with w3 | w3
        · exact absurd w3 (by omega)
        · exact w3.2
      obtain ⟨g1, g2, g3⟩ := ih (i + 1) _ hd2 (by rw [h1.1]; omega)
      exact ⟨g1, by rw [g2, h1.1], by have := h1.2; omega⟩
theorem jwr_down (p : Nat) (r : List Nat) (n gen k i : Nat) {s : Dsk} (hd : s.dn = true) : jwr p r n gen (k + 1) i s = (150, s) := by
  have a : dAsk s ((p + i : Nat) : Int) = 150 := by unfold dAsk; rw [if_pos hd]
  have e1 : wrE s ((p + i : Nat) : Int) (jblk r i n gen) = 150 := by unfold wrE; rw [a]; rfl
  have e2 : wrS s ((p + i : Nat) : Int) (jblk r i n gen) = s := by unfold wrS; rw [if_pos (Or.inl (by rw [a]; decide))]
  rw [jwr_next, e1, e2]
  rfl
/-- Bounds of what a journal appends to, after k calls. -/
structure JB (size k : Nat) (j : Jst) : Prop where
  nx : j.next ≤ size
  n : j.n ≤ k
  gen : j.gen < 9223372036854775808
theorem JB.up {size k k' : Nat} {j : Jst} (h : JB size k j) (hk : k ≤ k') : JB size k' j := ⟨h.nx, Nat.le_trans h.n hk, h.gen⟩
theorem jb_begin (size k : Nat) {gen : Int} (hg : Bd64 gen) : JB size k ⟨gen.toNat, 0, 0⟩ := ⟨Nat.zero_le _, Nat.zero_le _, by have := hg.2; show gen.toNat < _; omega⟩
theorem jb_new (size : Nat) : JB size 0 ⟨0, 0, 0⟩ := ⟨Nat.zero_le _, Nat.zero_le _, by decide⟩
theorem jb_app {s : Dsk} {base size k : Nat} {j : Jst} (h : JB size k j) (r : List Nat) : JB size (k + 1) (japp s base size j r).2.2 := by
  unfold japp
  have hn := h.nx
  have h2 := h.n
  by_cases g1 : j.gen = 0
  · rw [if_pos g1]; exact h.up (by omega)
  rw [if_neg g1]
  by_cases g2 : 262144 < r.length
  · rw [if_pos g2]; exact h.up (by omega)
  rw [if_neg g2]
  by_cases g3 : size - j.next < prt r.length
  · rw [if_pos g3]; exact h.up (by omega)
  rw [if_neg g3]
  by_cases g4 : (jput s base j r).1 ≠ 0
  · rw [if_pos g4]; exact ⟨hn, by show j.n ≤ _; omega, by show 0 < _; omega⟩
  · rw [if_neg g4]; exact ⟨by show j.next + prt r.length ≤ _; omega, by show j.n + 1 ≤ _; omega, h.gen⟩
theorem jq_app {s : Dsk} {m base size k : Nat} {j : Jst} (h : Jq m s) (hb : JB size k j) (hr : base + size ≤ m) (r : List Nat) (hl : r.length ≤ 6000) : Jq m (japp s base size j r).2.1 := by
  unfold japp
  have hn := hb.nx
  have hp : prt r.length ≤ 60 := by unfold prt; omega
  have hpp := prt_pos r.length
  by_cases g1 : j.gen = 0
  · rw [if_pos g1]; exact h
  rw [if_neg g1]
  by_cases g2 : 262144 < r.length
  · rw [if_pos g2]; exact h
  rw [if_neg g2]
  by_cases g3 : size - j.next < prt r.length
  · rw [if_pos g3]; exact h
  rw [if_neg g3]
  have key : Jq m (jput s base j r).2 := by
    unfold jput
    obtain ⟨P, hP⟩ : ∃ P, prt r.length = P + 1 := ⟨prt r.length - 1, by omega⟩
    by_cases hd : s.dn = true
    · rw [hP, jwr_down _ _ _ _ _ _ hd]
      exact h
    · have hd : s.dn = false := by simpa using hd
      obtain ⟨w1, w2, w3⟩ := jwr_jq (base + j.next) r (j.n + 1) j.gen (prt r.length) 0 s hd (by rw [h.bl]; omega)
      rw [h.un hd] at w3
      rw [h.bl] at w2
      simp only [List.length_nil, Nat.zero_add] at w3
      generalize jwr (base + j.next) r (j.n + 1) j.gen (prt r.length) 0 s = w at *
      unfold jfl
      by_cases g4 : w.1 ≠ 0
      · rw [if_pos g4]
        rcases w1 with w1 | w1
        · exact absurd w1.1 g4
        · exact ⟨fun q => (by rw [w1.2] at q; cases q), by omega, w2⟩
      · rw [if_neg g4]
        exact jq_fl (by omega) w2
  by_cases g4 : (jput s base j r).1 ≠ 0
  · rw [if_pos g4]; exact key
  · rw [if_neg g4]; exact key
end Go.Proofs.YtkbpcmjdfaokhaaDoor
