/-
  Layer 15: the program's disk and the document's, side by side.
-/
import Derived.Test.YtnchmnemclbfcaaDkRefF
import Derived.Test.YtnchmnemclbfcaaDkOps
set_option linter.unusedVariables false
set_option linter.unusedSimpArgs false
namespace Go.Proofs.Ytnchmnemclbfcaa
open Go.RowKit

/-- Both disks, apart from each other and from some other blocks. -/
def D2 (V : Disk1) (w0 w : World) (d r : Value) (s t : Dsk) (N : Nat → Prop) : Prop :=
  ∃ F G : Nat → Prop, V.Dt w d F s ∧ RD w r G t ∧ (∀ k, F k → w0.heap.size ≤ k) ∧ (∀ k, G k → w0.heap.size ≤ k) ∧ (∀ k, F k → ¬ G k) ∧ (∀ k, N k → ¬ F k ∧ ¬ G k ∧ w0.heap.size ≤ k ∧ k < w.heap.size) ∧ Below w0.heap.size w0 w
/-- These blocks are as they were. -/
def Kn (N : Nat → Prop) (w w' : World) : Prop := ∀ k, N k → w'.heap[k]? = w.heap[k]?
/-- A list that is older than both, or lies in one of the other blocks. -/
def Ou (B : Nat) (N : Nat → Prop) (v : Value) : Prop := ∀ (a : Addr) (n cap : Nat), v = .slice (some a) n cap → 0 < n → a.block < B ∨ N a.block
theorem Ou.up {B : Nat} {N N' : Nat → Prop} {v : Value} (h : Ou B N v) (k : ∀ k, N k → N' k) : Ou B N' v := fun a n c e hn => (h a n c e hn).imp id (k _)
theorem Lo.ou {B : Nat} {N : Nat → Prop} {v : Value} (h : Lo B v) : Ou B N v := fun a n c e hn => Or.inl (h a n c e hn)
theorem D2.bel {V : Disk1} {w0 w : World} {d r : Value} {s t : Dsk} {N : Nat → Prop} (h : D2 V w0 w d r s t N) : Below w0.heap.size w0 w := by
  obtain ⟨F, G, -, -, -, -, -, -, h⟩ := h
  exact h
theorem D2.weak {V : Disk1} {w0 w : World} {d r : Value} {s t : Dsk} {N N' : Nat → Prop} (h : D2 V w0 w d r s t N) (k : ∀ k, N' k → N k) : D2 V w0 w d r s t N' := by
  obtain ⟨F, G, h1, h2, h3, h4, h5, h6, h7⟩ := h
  exact ⟨F, G, h1, h2, h3, h4, h5, fun i hi => h6 i (k i hi), h7⟩
/-- New blocks are apart from both. -/
theorem D2.later {V : Disk1} {w0 w w' : World} {d r : Value} {s t : Dsk} {N : Nat → Prop} (h : D2 V w0 w d r s t N) (k : Below w.heap.size w w') : D2 V w0 w' d r s t (fun i => N i ∨ (w.heap.size ≤ i ∧ i < w'.heap.size)) := by
  obtain ⟨F, G, h1, h2, h3, h4, h5, h6, h7⟩ := h
  have hs := k.size
  refine ⟨F, G, V.dtK h1 (fun i hi => k.block i (V.dtB h1 i hi)) k.size, h2.later k, h3, h4, h5, fun i hi => ?_, bchain h7 k⟩
  rcases hi with q | q
  · obtain ⟨a, b, c, e⟩ := h6 i q
    exact ⟨a, b, c, by omega⟩
  · exact ⟨fun e => by have := V.dtB h1 i e; omega, fun e => by have := h2.lt i e; omega, by have := h7.size; omega, q.2⟩
/-- A cell of one of the other blocks is written. -/
theorem D2.set {V : Disk1} {w0 w : World} {d r : Value} {s t : Dsk} {N : Nat → Prop} (h : D2 V w0 w d r s t N) {p : Addr} (hp : N p.block) (u : Value) : D2 V w0 (w.setCell p u) d r s t N := by
  obtain ⟨F, G, h1, h2, h3, h4, h5, h6, h7⟩ := h
  obtain ⟨q1, q2, q3, q4⟩ := h6 _ hp
  have o : ∀ k, k ≠ p.block → (w.setCell p u).heap[k]? = w.heap[k]? := fun k hk => Below.heap_setCell _ _ _ _ hk
  refine ⟨F, G, V.dtK h1 (fun i hi => o i (fun e => q1 (by rw [← e]; exact hi))) (by rw [World.size_setCell]; exact Nat.le_refl _), h2.kept (fun i hi => o i (fun e => q2 (by rw [← e]; exact hi))) (by rw [World.size_setCell]; exact Nat.le_refl _), h3, h4, h5, fun i hi => ?_, h7.setCell q3 u⟩
  rw [World.size_setCell]
  exact h6 i hi
theorem D2.nextD {V : Disk1} {w0 w w' : World} {d r : Value} {s s' t : Dsk} {N F G : Nat → Prop} (h1 : V.Dt w d F s) (h2 : RD w r G t) (h3 : ∀ k, F k → w0.heap.size ≤ k) (h4 : ∀ k, G k → w0.heap.size ≤ k) (h5 : ∀ k, F k → ¬ G k) (h6 : ∀ k, N k → ¬ F k ∧ ¬ G k ∧ w0.heap.size ≤ k ∧ k < w.heap.size) (h7 : Below w0.heap.size w0 w) (h : Ad V.Dt d F s' w w') : D2 V w0 w' d r s' t N ∧ Kn N w w' := by
  obtain ⟨F', q1, q2, q3⟩ := h
  have hB := h7.size
  refine ⟨⟨F', G, q1, h2.kept (fun k hk => q3.block k (h2.lt k hk) (fun e => h5 k e hk)) q3.size, fun k hk => ?_, h4, fun k hk hg => ?_, fun k hk => ?_, q3.next h7 h3 hB⟩, fun k hk => q3.block k (h6 k hk).2.2.2 (h6 k hk).1⟩
  · rcases q2 k hk with q | q
    · exact h3 k q
    · omega
  · rcases q2 k hk with q | q
    · exact h5 k q hg
    · have := h2.lt k hg; omega
  · obtain ⟨a, b, c, e⟩ := h6 k hk
    refine ⟨fun q => ?_, b, c, Nat.lt_of_lt_of_le e q3.size⟩
    rcases q2 k q with q | q
    · exact a q
    · omega
theorem D2.nextR {V : Disk1} {w0 w w' : World} {d r : Value} {s t t' : Dsk} {N F G : Nat → Prop} (h1 : V.Dt w d F s) (h2 : RD w r G t) (h3 : ∀ k, F k → w0.heap.size ≤ k) (h4 : ∀ k, G k → w0.heap.size ≤ k) (h5 : ∀ k, F k → ¬ G k) (h6 : ∀ k, N k → ¬ F k ∧ ¬ G k ∧ w0.heap.size ≤ k ∧ k < w.heap.size) (h7 : Below w0.heap.size w0 w) (h : Ad RD r G t' w w') : D2 V w0 w' d r s t' N ∧ Kn N w w' := by
  obtain ⟨G', q1, q2, q3⟩ := h
  have hB := h7.size
  refine ⟨⟨F, G', V.dtK h1 (fun k hk => q3.block k (V.dtB h1 k hk) (fun e => h5 k hk e)) q3.size, q1, h3, fun k hk => ?_, fun k hf hk => ?_, fun k hk => ?_, q3.next h7 h4 hB⟩, fun k hk => q3.block k (h6 k hk).2.2.2 (h6 k hk).2.1⟩
  · rcases q2 k hk with q | q
    · exact h4 k q
    · omega
  · rcases q2 k hk with q | q
    · exact h5 k hf q
    · have := V.dtB h1 k hf; omega
  · obtain ⟨a, b, c, e⟩ := h6 k hk
    refine ⟨a, fun q => ?_, c, Nat.lt_of_lt_of_le e q3.size⟩
    rcases q2 k q with q | q
    · exact b q
    · omega
theorem ou_nf {V : Disk1} {w0 : World} {N F : Nat → Prop} {v : Value} (ho : Ou w0.heap.size N v) (h3 : ∀ k, F k → w0.heap.size ≤ k) (h6 : ∀ k, N k → ¬ F k) : Nf F v := fun a n c e hn q => by
  rcases ho a n c e hn with x | x
  · have := h3 _ q; omega
  · exact h6 _ x q
/-! The calls. -/
theorem d2WrD {V : Disk1} {w0 w : World} {d r : Value} {s t : Dsk} {N : Nat → Prop} (h : D2 V w0 w d r s t N) (i : Int) {v : Value} {b : List Nat} (hv : Bs w v b) (ho : Ou w0.heap.size N v) (hb : ∀ c ∈ b, c < 256) (hl : b.length ≤ 2000000) (hu : s.un.length ≤ 1000) : Calls Try.prog 19 #[d, .int .i64 i, v] w fun e w' => e = .returned (.int .i64 ((wrE s i b : Nat) : Int)) ∧ D2 V w0 w' d r (wrS s i b) t N ∧ Kn N w w' := by
  obtain ⟨F, G, h1, h2, h3, h4, h5, h6, h7⟩ := h
  exact (V.write w d F s i v b h1 hv (ou_nf (V := V) ho h3 (fun k hk => (h6 k hk).1)) hb hl hu).mono fun e w' ⟨q1, q2⟩ => ⟨q1, D2.nextD h1 h2 h3 h4 h5 h6 h7 q2⟩
theorem d2WrR {V : Disk1} {w0 w : World} {d r : Value} {s t : Dsk} {N : Nat → Prop} (h : D2 V w0 w d r s t N) (i : Int) {v : Value} {b : List Nat} (hv : Bs w v b) (hb : ∀ c ∈ b, c < 256) (hu : t.un.length ≤ 1000) : Calls Try.prog 25 #[r, .int .i64 i, v] w fun e w' => e = .returned (.int .i64 ((wrE t i b : Nat) : Int)) ∧ D2 V w0 w' d r s (wrS t i b) N ∧ Kn N w w' := by
  obtain ⟨F, G, h1, h2, h3, h4, h5, h6, h7⟩ := h
  exact (refWrite h2 i v b hv hb hu).mono fun e w' ⟨q1, q2⟩ => ⟨q1, D2.nextR h1 h2 h3 h4 h5 h6 h7 q2⟩
theorem d2FlD {V : Disk1} {w0 w : World} {d r : Value} {s t : Dsk} {N : Nat → Prop} (h : D2 V w0 w d r s t N) (hu : s.un.length ≤ 1000) : Calls Try.prog 20 #[d] w fun e w' => e = .returned (.int .i64 ((flE s : Nat) : Int)) ∧ D2 V w0 w' d r (flS s) t N ∧ Kn N w w' := by
  obtain ⟨F, G, h1, h2, h3, h4, h5, h6, h7⟩ := h
  exact (V.flush w d F s h1 hu).mono fun e w' ⟨q1, q2⟩ => ⟨q1, D2.nextD h1 h2 h3 h4 h5 h6 h7 q2⟩
theorem d2FlR {V : Disk1} {w0 w : World} {d r : Value} {s t : Dsk} {N : Nat → Prop} (h : D2 V w0 w d r s t N) (hu : t.un.length ≤ 1000) : Calls Try.prog 27 #[r] w fun e w' => e = .returned (.int .i64 ((flE t : Nat) : Int)) ∧ D2 V w0 w' d r s (flS t) N ∧ Kn N w w' := by
  obtain ⟨F, G, h1, h2, h3, h4, h5, h6, h7⟩ := h
  exact (refFlush h2 (by omega)).mono fun e w' ⟨q1, q2⟩ => ⟨q1, D2.nextR h1 h2 h3 h4 h5 h6 h7 q2⟩
theorem d2ArD {V : Disk1} {w0 w : World} {d r : Value} {s t : Dsk} {N : Nat → Prop} (h : D2 V w0 w d r s t N) (n : Int) (hn : Bd64 n) : Calls Try.prog 18 #[d, .int .i64 n] w fun e w' => e = .returned (.tuple #[]) ∧ D2 V w0 w' d r (arS s n) t N ∧ Kn N w w' := by
  obtain ⟨F, G, h1, h2, h3, h4, h5, h6, h7⟩ := h
  exact (V.arm w d F s n h1 hn).mono fun e w' ⟨q1, q2⟩ => ⟨q1, D2.nextD h1 h2 h3 h4 h5 h6 h7 q2⟩
theorem d2ArR {V : Disk1} {w0 w : World} {d r : Value} {s t : Dsk} {N : Nat → Prop} (h : D2 V w0 w d r s t N) (n : Int) (hn : Bd64 n) : Calls Try.prog 28 #[r, .int .i64 n] w fun e w' => e = .returned (.tuple #[]) ∧ D2 V w0 w' d r s (arS t n) N ∧ Kn N w w' := by
  obtain ⟨F, G, h1, h2, h3, h4, h5, h6, h7⟩ := h
  exact (refArm h2 n hn).mono fun e w' ⟨q1, q2⟩ => ⟨q1, D2.nextR h1 h2 h3 h4 h5 h6 h7 q2⟩
theorem d2CrD {V : Disk1} {w0 w : World} {d r : Value} {s t : Dsk} {N : Nat → Prop} (h : D2 V w0 w d r s t N) {v : Value} {fs : List (Int × Int)} (hv : Fts w v fs) (ho : Ou w0.heap.size N v) (hl : fs.length ≤ 1000) (hu : s.un.length ≤ 1000) : Calls Try.prog 21 #[d, v] w fun e w' => e = .returned (.int .i64 0) ∧ D2 V w0 w' d r (crS s fs) t N ∧ Kn N w w' := by
  obtain ⟨F, G, h1, h2, h3, h4, h5, h6, h7⟩ := h
  exact (V.crash w d F s v fs h1 hv (ou_nf (V := V) ho h3 (fun k hk => (h6 k hk).1)) hl hu).mono fun e w' ⟨q1, q2⟩ => ⟨q1, D2.nextD h1 h2 h3 h4 h5 h6 h7 q2⟩
theorem d2CrR {V : Disk1} {w0 w : World} {d r : Value} {s t : Dsk} {N : Nat → Prop} (h : D2 V w0 w d r s t N) {v : Value} {fs : List (Int × Int)} (hv : Fts w v fs) (ho : Ou w0.heap.size N v) (hu : t.un.length ≤ 1000) : Calls Try.prog 29 #[r, v] w fun e w' => e = .returned (.tuple #[]) ∧ D2 V w0 w' d r s (crS t fs) N ∧ Kn N w w' := by
  obtain ⟨F, G, h1, h2, h3, h4, h5, h6, h7⟩ := h
  exact (refCrash h2 v fs hv (ou_nf (V := V) ho h4 (fun k hk => (h6 k hk).2.1)) (by omega)).mono fun e w' ⟨q1, q2⟩ => ⟨q1, D2.nextR h1 h2 h3 h4 h5 h6 h7 q2⟩
theorem d2RdD {V : Disk1} {w0 w : World} {d r : Value} {s t : Dsk} {N : Nat → Prop} (h : D2 V w0 w d r s t N) (i : Int) : Calls Try.prog 17 #[d, .int .i64 i] w fun e w' => ∃ v, e = .returned (.tuple #[v, .int .i64 ((dAsk s i : Nat) : Int)]) ∧ Bs w' v (rdB s i) ∧ (Ow w.heap.size v ∧ Uf w' v) ∧ Below w.heap.size w w' := by
  obtain ⟨F, G, h1, h2, h3, h4, h5, h6, h7⟩ := h
  exact V.read w d F s i h1
theorem d2RdR {V : Disk1} {w0 w : World} {d r : Value} {s t : Dsk} {N : Nat → Prop} (h : D2 V w0 w d r s t N) (i : Int) (hu : t.un.length ≤ 1000) : Calls Try.prog 26 #[r, .int .i64 i] w fun e w' => ∃ v, e = .returned (.tuple #[v, .int .i64 ((dAsk t i : Nat) : Int)]) ∧ Bs w v (rdB t i) ∧ w' = w := by
  obtain ⟨F, G, h1, h2, h3, h4, h5, h6, h7⟩ := h
  exact refRead h2 i (by omega)
theorem d2Safe {V : Disk1} {w0 w : World} {d r : Value} {s t : Dsk} {N : Nat → Prop} (h : D2 V w0 w d r s t N) (i : Nat) (hi : i < s.bl.length) : Calls Try.prog 15 #[d, .int .i64 (i : Int)] w fun e w' => ∃ v, e = .returned (.tuple #[v, .int .i64 0]) ∧ Bs w' v (s.bl.getD i []) ∧ Ow w.heap.size v ∧ Below w.heap.size w w' := by
  obtain ⟨F, G, h1, h2, h3, h4, h5, h6, h7⟩ := h
  exact V.safeY w d F s i h1 hi
theorem d2SafeN {V : Disk1} {w0 w : World} {d r : Value} {s t : Dsk} {N : Nat → Prop} (h : D2 V w0 w d r s t N) (i : Int) (hi : i < 0 ∨ (s.bl.length : Int) ≤ i) : Calls Try.prog 15 #[d, .int .i64 i] w fun e w' => ∃ v, e = .returned (.tuple #[v, .int .i64 151]) ∧ Bs w' v [] ∧ Below w.heap.size w w' := by
  obtain ⟨F, G, h1, h2, h3, h4, h5, h6, h7⟩ := h
  exact V.safeN w d F s i h1 hi
theorem d2Un {V : Disk1} {w0 w : World} {d r : Value} {s t : Dsk} {N : Nat → Prop} (h : D2 V w0 w d r s t N) (hu : s.un.length ≤ 1000) : Calls Try.prog 22 #[d] w fun e w' => ∃ v, e = .returned v ∧ Is w' v (s.un.map fun u => ((u.1 : Nat) : Int)) ∧ Ow w.heap.size v ∧ Below w.heap.size w w' := by
  obtain ⟨F, G, h1, h2, h3, h4, h5, h6, h7⟩ := h
  exact V.under w d F s h1 hu
theorem d2Down {V : Disk1} {w0 w : World} {d r : Value} {s t : Dsk} {N : Nat → Prop} (h : D2 V w0 w d r s t N) : Calls Try.prog 14 #[d] w fun e w' => e = .returned (.bool s.dn) ∧ Below w.heap.size w w' := by
  obtain ⟨F, G, h1, h2, h3, h4, h5, h6, h7⟩ := h
  exact V.down w d F s h1
/-- What the document's disk holds, for a reader. -/
theorem D2.ref {V : Disk1} {w0 w : World} {d r : Value} {s t : Dsk} {N : Nat → Prop} (h : D2 V w0 w d r s t N) : ∃ (b : Nat) (vB vU : Value) (cs ds : List Value) (G : Nat → Prop), r = .pointer (some ⟨b, 0, none⟩) ∧ Rd5 w b vB vU cs ds G t := by
  obtain ⟨F, G, h1, h2, h3, h4, h5, h6, h7⟩ := h
  obtain ⟨b, vB, vU, cs, ds, e, hR, -⟩ := h2
  exact ⟨b, vB, vU, cs, ds, G, e, hR⟩
end Go.Proofs.Ytnchmnemclbfcaa
