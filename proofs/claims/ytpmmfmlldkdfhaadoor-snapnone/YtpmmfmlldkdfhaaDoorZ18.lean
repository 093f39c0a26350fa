/-
Layer 15: the program's disk and the document's, side by side.
What layer 11 must give (crc): Of, More, Join; lists of texts.
Layer 16: the contracts of snap; calls with a snap beside both disks.
-/
import Derived.Test.YtpmmfmlldkdfhaaDoorZ17
import Derived.Test.YtpmmfmlldkdfhaaDoorZ16
import Derived.Test.YtpmmfmlldkdfhaaDoorZ07
import Derived.Test.YtpmmfmlldkdfhaaDoorZ15

set_option linter.unusedVariables false
set_option linter.unusedSimpArgs false
namespace Go.Proofs.YtpmmfmlldkdfhaaDoor
open Go.RowKit

/-- Both disks, apart from each other and from some other blocks. -/
def D2 (V : Disk1) (w0 w : World) (d r : Value) (s t : Dsk) (N : Nat → Prop) : Prop :=
  ∃ F G : Nat → Prop, V.Dt w d F s ∧ RD w r G t ∧ (∀ k, F k → w0.heap.size ≤ k) ∧ (∀ k, G k → w0.heap.size ≤ k) ∧ (∀ k, F k → ¬ G k) ∧ (∀ k, N k → ¬ F k ∧ ¬ G k ∧ w0.heap.size ≤ k ∧ k < w.heap.size) ∧ Below w0.heap.size w0 w
/-- These blocks are as they were. -/
def Kn (N : Nat → Prop) (w w' : World) : Prop := ∀ k, N k → w'.heap[k]? = w.heap[k]?
/-- A list that is older than both, or lies in one of the other blocks. -/
def Ou (B : Nat) (N : Nat → Prop) (v : Value) : Prop := ∀ (a : Addr) (n cap : Nat), v = .slice (some a) n cap → 0 < n → a.block < B ∨ N a.block
theorem Ou.up {B : Nat} {N N' : Nat → Prop} {v : Value} (h : Ou B N v) (k : ∀ k, N k → N' k) : Ou B N' v := fun a n c e hn => (h a n c e hn).imp id (k _)
theorem Lo.ou {B : Nat} {N : Nat → Prop} {v : Value} (h : Lo B v) : Ou B N v := fun a n c e hn => Or.inl (h a n c e hn)
theorem D2.bel {V : Disk1} {w0 w : World} {d r : Value} {s t : Dsk} {N : Nat → Prop} (h : D2 V w0 w d r s t N) : Below w0.heap.size w0 w := by
  obtain ⟨F, G, -, -, -, -, -, -, h⟩ := h
  exact h
theorem D2.weak {V : Disk1} {w0 w : World} {d r : Value} {s t : Dsk} {N N' : Nat → Prop} (h : D2 V w0 w d r s t N) (k : ∀ k, N' k → N k) : D2 V w0 w d r s t N' := by
  obtain ⟨F, G, h1, h2, h3, h4, h5, h6, h7⟩ := h
  exact ⟨F, G, h1, h2, h3, h4, h5, fun i hi => h6 i (k i hi), h7⟩
/-- New blocks are apart from both. -/
theorem D2.later {V : Disk1} {w0 w w' : World} {d r : Value} {s t : Dsk} {N : Nat → Prop} (h : D2 V w0 w d r s t N) (k : Below w.heap.size w w') : D2 V w0 w' d r s t (fun i => N i ∨ (w.heap.size ≤ i ∧ i < w'.heap.size)) := by
  obtain ⟨F, G, h1, h2, h3, h4, h5, h6, h7⟩ := h
  have hs := k.size
  refine ⟨F, G, V.dtK h1 (fun i hi => k.block i (V.dtB h1 i hi)) k.size, h2.later k, h3, h4, h5, fun i hi => ?_, bchain h7 k⟩
  rcases hi with q | q
  · obtain ⟨a, b, c, e⟩ := h6 i q
    exact ⟨a, b, c, by omega⟩
  · exact ⟨fun e => by have := V.dtB h1 i e; omega, fun e => by have := h2.lt i e; omega, by have := h7.size; omega, q.2⟩
/-- A cell of one of the other blocks is written. -/
theorem D2.set {V : Disk1} {w0 w : World} {d r : Value} {s t : Dsk} {N : Nat → Prop} (h : D2 V w0 w d r s t N) {p : Addr} (hp : N p.block) (u : Value) : D2 V w0 (w.setCell p u) d r s t N := by
  obtain ⟨F, G, h1, h2, h3, h4, h5, h6, h7⟩ := h
  obtain ⟨q1, q2, q3, q4⟩ := h6 _ hp
  have o : ∀ k, k ≠ p.block → (w.setCell p u).heap[k]? = w.heap[k]? := fun k hk => Below.heap_setCell _ _ _ _ hk
  refine ⟨F, G, V.dtK h1 (fun i hi => o i (fun e => q1 (by rw [← e]; exact hi))) (by rw [World.size_setCell]; exact Nat.le_refl _), h2.kept (fun i hi => o i (fun e => q2 (by rw [← e]; exact hi))) (by rw [World.size_setCell]; exact Nat.le_refl _), h3, h4, h5, fun i hi => ?_, h7.setCell q3 u⟩
  rw [World.size_setCell]
  exact h6 i hi
theorem D2.nextD {V : Disk1} {w0 w w' : World} {d r : Value} {s s' t : Dsk} {N F G : Nat → Prop} (h1 : V.Dt w d F s) (h2 : RD w r G t) (h3 : ∀ k, F k → w0.heap.size ≤ k) (h4 : ∀ k, G k → w0.heap.size ≤ k) (h5 : ∀ k, F k → ¬ G k) (h6 : ∀ k, N k → ¬ F k ∧ ¬ G k ∧ w0.heap.size ≤ k ∧ k < w.heap.size) (h7 : Below w0.heap.size w0 w) (h : Ad V.Dt d F s' w w') : D2 V w0 w' d r s' t N ∧ Kn N w w' := by
  obtain ⟨F', q1, q2, q3⟩ := h
  have hB := h7.size
  refine ⟨⟨F', G, q1, h2.kept (fun k hk => q3.block k (h2.lt k hk) (fun e => h5 k e hk)) q3.size, fun k hk => ?_, h4, fun k hk hg => ?_, fun k hk => ?_, q3.next h7 h3 hB⟩, fun k hk => q3.block k (h6 k hk).2.2.2 (h6 k hk).1⟩
  · rcases q2 k hk with q | q
    · exact h3 k q
    · omega
  · rcases q2 k hk with q | q
    · exact h5 k q hg
    · have := h2.lt k hg; omega
  · obtain ⟨a, b, c, e⟩ := h6 k hk
    refine ⟨fun q => ?_, b, c, Nat.lt_of_lt_of_le e q3.size⟩
    rcases q2 k q with q | q
    · exact a q
    · omega
theorem D2.nextR {V : Disk1} {w0 w w' : World} {d r : Value} {s t t' : Dsk} {N F G : Nat → Prop} (h1 : V.Dt w d F s) (h2 : RD w r G t) (h3 : ∀ k, F k → w0.heap.size ≤ k) (h4 : ∀ k, G k → w0.heap.size ≤ k) (h5 : ∀ k, F k → ¬ G k) (h6 : ∀ k, N k → ¬ F k ∧ ¬ G k ∧ w0.heap.size ≤ k ∧ k < w.heap.size) (h7 : Below w0.heap.size w0 w) (h : Ad RD r G t' w w') : D2 V w0 w' d r s t' N ∧ Kn N w w' := by
  obtain ⟨G', q1, q2, q3⟩ := h
  have hB := h7.size
  refine ⟨⟨F, G', V.dtK h1 (fun k hk => q3.block k (V.dtB h1 k hk) (fun e => h5 k hk e)) q3.size, q1, h3, fun k hk => ?_, fun k hf hk => ?_, fun k hk => ?_, q3.next h7 h4 hB⟩, fun k hk => q3.block k (h6 k hk).2.2.2 (h6 k hk).2.1⟩
  · rcases q2 k hk with q | q
    · exact h4 k q
    · omega
  · rcases q2 k hk with q | q
    · exact h5 k hf q
    · have := V.dtB h1 k hf; omega
  · obtain ⟨a, b, c, e⟩ := h6 k hk
    refine ⟨a, fun q => ?_, c, Nat.lt_of_lt_of_le e q3.size⟩
    rcases q2 k q with q | q
    · exact b q
    · omega
theorem ou_nf {V : Disk1} {w0 : World} {N F : Nat → Prop} {v : Value} (ho : Ou w0.heap.size N v) (h3 : ∀ k, F k → w0.heap.size ≤ k) (h6 : ∀ k, N k → ¬ F k) : Nf F v := fun a n c e hn q => by
  rcases ho a n c e hn with x | x
  · have := h3 _ q; omega
  · exact h6 _ x q
/-! The calls. -/
theorem d2WrD {V : Disk1} {w0 w : World} {d r : Value} {s t : Dsk} {N : Nat → Prop} (h : D2 V w0 w d r s t N) (i : Int) {v : Value} {b : List Nat} (hv : Bs w v b) (ho : Ou w0.heap.size N v) (hb : ∀ c ∈ b, c < 256) (hl : b.length ≤ 2000000) (hu : s.un.length ≤ 1000) : Calls Tryd.prog 23 #[d, .int .i64 i, v] w fun e w' => e = .returned (.int .i64 ((wrE s i b : Nat) : Int)) ∧ D2 V w0 w' d r (wrS s i b) t N ∧ Kn N w w' := by
  obtain ⟨F, G, h1, h2, h3, h4, h5, h6, h7⟩ := h
  exact (V.write w d F s i v b h1 hv (ou_nf (V := V) ho h3 (fun k hk => (h6 k hk).1)) hb hl hu).mono fun e w' ⟨q1, q2⟩ => ⟨q1, D2.nextD h1 h2 h3 h4 h5 h6 h7 q2⟩
theorem d2WrR {V : Disk1} {w0 w : World} {d r : Value} {s t : Dsk} {N : Nat → Prop} (h : D2 V w0 w d r s t N) (i : Int) {v : Value} {b : List Nat} (hv : Bs w v b) (hb : ∀ c ∈ b, c < 256) (hu : t.un.length ≤ 1000) : Calls Tryd.prog 24 #[r, .int .i64 i, v] w fun e w' => e = .returned (.int .i64 ((wrE t i b : Nat) : Int)) ∧ D2 V w0 w' d r s (wrS t i b) N ∧ Kn N w w' := by
  obtain ⟨F, G, h1, h2, h3, h4, h5, h6, h7⟩ := h
  exact (refWrite h2 i v b hv hb hu).mono fun e w' ⟨q1, q2⟩ => ⟨q1, D2.nextR h1 h2 h3 h4 h5 h6 h7 q2⟩
theorem d2FlD {V : Disk1} {w0 w : World} {d r : Value} {s t : Dsk} {N : Nat → Prop} (h : D2 V w0 w d r s t N) (hu : s.un.length ≤ 1000) : Calls Tryd.prog 25 #[d] w fun e w' => e = .returned (.int .i64 ((flE s : Nat) : Int)) ∧ D2 V w0 w' d r (flS s) t N ∧ Kn N w w' := by
  obtain ⟨F, G, h1, h2, h3, h4, h5, h6, h7⟩ := h
  exact (V.flush w d F s h1 hu).mono fun e w' ⟨q1, q2⟩ => ⟨q1, D2.nextD h1 h2 h3 h4 h5 h6 h7 q2⟩
theorem d2FlR {V : Disk1} {w0 w : World} {d r : Value} {s t : Dsk} {N : Nat → Prop} (h : D2 V w0 w d r s t N) (hu : t.un.length ≤ 1000) : Calls Tryd.prog 26 #[r] w fun e w' => e = .returned (.int .i64 ((flE t : Nat) : Int)) ∧ D2 V w0 w' d r s (flS t) N ∧ Kn N w w' := by
  obtain ⟨F, G, h1, h2, h3, h4, h5, h6, h7⟩ := h
  exact (refFlush h2 (by omega)).mono fun e w' ⟨q1, q2⟩ => ⟨q1, D2.nextR h1 h2 h3 h4 h5 h6 h7 q2⟩
theorem d2ArD {V : Disk1} {w0 w : World} {d r : Value} {s t : Dsk} {N : Nat → Prop} (h : D2 V w0 w d r s t N) (n : Int) (hn : Bd64 n) : Calls Tryd.prog 18 #[d, .int .i64 n] w fun e w' => e = .returned (.tuple #[]) ∧ D2 V w0 w' d r (arS s n) t N ∧ Kn N w w' := by
  obtain ⟨F, G, h1, h2, h3, h4, h5, h6, h7⟩ := h
  exact (V.arm w d F s n h1 hn).mono fun e w' ⟨q1, q2⟩ => ⟨q1, D2.nextD h1 h2 h3 h4 h5 h6 h7 q2⟩
theorem d2ArR {V : Disk1} {w0 w : World} {d r : Value} {s t : Dsk} {N : Nat → Prop} (h : D2 V w0 w d r s t N) (n : Int) (hn : Bd64 n) : Calls Tryd.prog 19 #[r, .int .i64 n] w fun e w' => e = .returned (.tuple #[]) ∧ D2 V w0 w' d r s (arS t n) N ∧ Kn N w w' := by
  obtain ⟨F, G, h1, h2, h3, h4, h5, h6, h7⟩ := h
  exact (refArm h2 n hn).mono fun e w' ⟨q1, q2⟩ => ⟨q1, D2.nextR h1 h2 h3 h4 h5 h6 h7 q2⟩
theorem d2CrD {V : Disk1} {w0 w : World} {d r : Value} {s t : Dsk} {N : Nat → Prop} (h : D2 V w0 w d r s t N) {v : Value} {fs : List (Int × Int)} (hv : Fts w v fs) (ho : Ou w0.heap.size N v) (hl : fs.length ≤ 1000) (hu : s.un.length ≤ 1000) : Calls Tryd.prog 20 #[d, v] w fun e w' => e = .returned (.int .i64 0) ∧ D2 V w0 w' d r (crS s fs) t N ∧ Kn N w w' := by
  obtain ⟨F, G, h1, h2, h3, h4, h5, h6, h7⟩ := h
  exact (V.crash w d F s v fs h1 hv (ou_nf (V := V) ho h3 (fun k hk => (h6 k hk).1)) hl hu).mono fun e w' ⟨q1, q2⟩ => ⟨q1, D2.nextD h1 h2 h3 h4 h5 h6 h7 q2⟩
theorem d2CrR {V : Disk1} {w0 w : World} {d r : Value} {s t : Dsk} {N : Nat → Prop} (h : D2 V w0 w d r s t N) {v : Value} {fs : List (Int × Int)} (hv : Fts w v fs) (ho : Ou w0.heap.size N v) (hu : t.un.length ≤ 1000) : Calls Tryd.prog 21 #[r, v] w fun e w' => e = .returned (.tuple #[]) ∧ D2 V w0 w' d r s (crS t fs) N ∧ Kn N w w' := by
  obtain ⟨F, G, h1, h2, h3, h4, h5, h6, h7⟩ := h
  exact (refCrash h2 v fs hv (ou_nf (V := V) ho h4 (fun k hk => (h6 k hk).2.1)) (by omega)).mono fun e w' ⟨q1, q2⟩ => ⟨q1, D2.nextR h1 h2 h3 h4 h5 h6 h7 q2⟩
theorem d2RdD {V : Disk1} {w0 w : World} {d r : Value} {s t : Dsk} {N : Nat → Prop} (h : D2 V w0 w d r s t N) (i : Int) : Calls Tryd.prog 55 #[d, .int .i64 i] w fun e w' => ∃ v, e = .returned (.tuple #[v, .int .i64 ((dAsk s i : Nat) : Int)]) ∧ Bs w' v (rdB s i) ∧ (Ow w.heap.size v ∧ Uf w' v) ∧ Below w.heap.size w w' := by
  obtain ⟨F, G, h1, h2, h3, h4, h5, h6, h7⟩ := h
  exact V.read w d F s i h1
theorem d2RdR {V : Disk1} {w0 w : World} {d r : Value} {s t : Dsk} {N : Nat → Prop} (h : D2 V w0 w d r s t N) (i : Int) (hu : t.un.length ≤ 1000) : Calls Tryd.prog 52 #[r, .int .i64 i] w fun e w' => ∃ v, e = .returned (.tuple #[v, .int .i64 ((dAsk t i : Nat) : Int)]) ∧ Bs w v (rdB t i) ∧ w' = w := by
  obtain ⟨F, G, h1, h2, h3, h4, h5, h6, h7⟩ := h
  exact refRead h2 i (by omega)
theorem d2Safe {V : Disk1} {w0 w : World} {d r : Value} {s t : Dsk} {N : Nat → Prop} (h : D2 V w0 w d r s t N) (i : Nat) (hi : i < s.bl.length) : Calls Tryd.prog 44 #[d, .int .i64 (i : Int)] w fun e w' => ∃ v, e = .returned (.tuple #[v, .int .i64 0]) ∧ Bs w' v (s.bl.getD i []) ∧ Ow w.heap.size v ∧ Below w.heap.size w w' := by
  obtain ⟨F, G, h1, h2, h3, h4, h5, h6, h7⟩ := h
  exact V.safeY w d F s i h1 hi
theorem d2SafeN {V : Disk1} {w0 w : World} {d r : Value} {s t : Dsk} {N : Nat → Prop} (h : D2 V w0 w d r s t N) (i : Int) (hi : i < 0 ∨ (s.bl.length : Int) ≤ i) : Calls Tryd.prog 44 #[d, .int .i64 i] w fun e w' => ∃ v, e = .returned (.tuple #[v, .int .i64 151]) ∧ Bs w' v [] ∧ Below w.heap.size w w' := by
  obtain ⟨F, G, h1, h2, h3, h4, h5, h6, h7⟩ := h
  exact V.safeN w d F s i h1 hi
theorem d2Down {V : Disk1} {w0 w : World} {d r : Value} {s t : Dsk} {N : Nat → Prop} (h : D2 V w0 w d r s t N) : Calls Tryd.prog 45 #[d] w fun e w' => e = .returned (.bool s.dn) ∧ Below w.heap.size w w' := by
  obtain ⟨F, G, h1, h2, h3, h4, h5, h6, h7⟩ := h
  exact V.down w d F s h1
/-- What the document's disk holds, for a reader. -/
theorem D2.ref {V : Disk1} {w0 w : World} {d r : Value} {s t : Dsk} {N : Nat → Prop} (h : D2 V w0 w d r s t N) : ∃ (b : Nat) (vB vU : Value) (cs ds : List Value) (G : Nat → Prop), r = .pointer (some ⟨b, 0, none⟩) ∧ Rd5 w b vB vU cs ds G t := by
  obtain ⟨F, G, h1, h2, h3, h4, h5, h6, h7⟩ := h
  obtain ⟨b, vB, vU, cs, ds, e, hR, -⟩ := h2
  exact ⟨b, vB, vU, cs, ds, G, e, hR⟩
end Go.Proofs.YtpmmfmlldkdfhaaDoor
set_option linter.unusedVariables false
set_option linter.unusedSimpArgs false
namespace Go.Proofs.YtpmmfmlldkdfhaaDoor
open Go.RowKit

/-- A list of texts. -/
def Lb (w : World) (v : Value) (K : Nat) (ns : Nat → Nat) (fs : Nat → Nat → Nat) : Prop := ∃ (adr : Option Addr) (cap b o : Nat), v = .slice adr K cap ∧ K ≤ cap ∧ cap ≤ maxLen ∧ (0 < K → adr = some ⟨b, o, none⟩) ∧ ∀ j, j < K → ∃ (ad : Option Addr) (ca : Nat), w.cell? ⟨b, o + j, none⟩ = some (.slice ad (ns j) ca) ∧ Ls w (.slice ad (ns j) ca) (ns j) (by8 (fs j))
theorem Lb.later {w w' : World} {v : Value} {K : Nat} {ns : Nat → Nat} {fs : Nat → Nat → Nat} (h : Lb w v K ns fs) (hb : Below w.heap.size w w') : Lb w' v K ns fs := by
  obtain ⟨adr, cap, b, o, h1, h2, h3, h4, h5⟩ := h
  refine ⟨adr, cap, b, o, h1, h2, h3, h4, fun j hj => ?_⟩
  obtain ⟨ad, ca, q1, q2⟩ := h5 j hj
  exact ⟨ad, ca, cell_later hb q1, q2.later hb⟩
theorem Lb.len {w : World} {v : Value} {K : Nat} {ns : Nat → Nat} {fs : Nat → Nat → Nat} (h : Lb w v K ns fs) : ∃ (ad : Option Addr) (cap : Nat), v = .slice ad K cap ∧ K ≤ cap ∧ cap ≤ maxLen := by
  obtain ⟨adr, cap, b, o, h1, h2, h3, -⟩ := h
  exact ⟨adr, cap, h1, h2, h3⟩
theorem Lb.spot {w : World} {v : Value} {K : Nat} {ns : Nat → Nat} {fs : Nat → Nat → Nat} (h : Lb w v K ns fs) (j : Nat) (hj : j < K) : ∃ (b o cap : Nat) (ad : Option Addr) (ca : Nat), v = .slice (some ⟨b, o, none⟩) K cap ∧ w.cell? ⟨b, o + j, none⟩ = some (.slice ad (ns j) ca) ∧ Ls w (.slice ad (ns j) ca) (ns j) (by8 (fs j)) := by
  obtain ⟨adr, cap, b, o, h1, h2, h3, h4, h5⟩ := h
  have e := h4 (by omega)
  subst e
  obtain ⟨ad, ca, q1, q2⟩ := h5 j hj
  exact ⟨b, o, cap, ad, ca, h1, q1, q2⟩
/-- One text, and two, as a list. -/
theorem lb_one (w : World) (ad : Option Addr) (n ca : Nat) (f : Nat → Nat) (t : TypeId) (l : Ls w (.slice ad n ca) n (by8 f)) : Lb (w.alloc (.cells #[.slice ad n ca] t)) (.slice (some ⟨w.heap.size, 0, none⟩) 1 1) 1 (fun _ => n) (fun _ => f) :=
  ⟨_, 1, w.heap.size, 0, rfl, Nat.le_refl _, by unfold maxLen; omega, fun _ => rfl, fun j hj => by
    obtain rfl : j = 0 := by omega
    exact ⟨ad, ca, by simp [go_sem], l.later (bel1 _ _)⟩⟩
def two {α : Type} (a b : α) : Nat → α := fun j => if j = 0 then a else b
theorem lb_two (w : World) (ad1 ad2 : Option Addr) (n1 n2 c1 c2 : Nat) (f g : Nat → Nat) (t : TypeId) (l1 : Ls w (.slice ad1 n1 c1) n1 (by8 f)) (l2 : Ls w (.slice ad2 n2 c2) n2 (by8 g)) : Lb (w.alloc (.cells #[.slice ad1 n1 c1, .slice ad2 n2 c2] t)) (.slice (some ⟨w.heap.size, 0, none⟩) 2 2) 2 (two n1 n2) (two f g) :=
  ⟨_, 2, w.heap.size, 0, rfl, Nat.le_refl _, by unfold maxLen; omega, fun _ => rfl, fun j hj => by
    have : j = 0 ∨ j = 1 := by omega
    rcases this with rfl | rfl
    · exact ⟨ad1, c1, by simp [go_sem, two], l1.later (bel1 _ _)⟩
    · exact ⟨ad2, c2, by simp [go_sem, two], l2.later (bel1 _ _)⟩⟩
/-- What crc asks of the world: its table of half bytes. -/
def TbAt (w : World) : Prop := ∀ i, i < 16 → w.cell? ⟨0, i, none⟩ = some (.int .u32 ((cZs 4 i : Nat) : Int))
theorem TbAt.later {w w' : World} (h : TbAt w) (hb : Below w.heap.size w w') : TbAt w' := fun m hm => cell_later hb (h m hm)
end Go.Proofs.YtpmmfmlldkdfhaaDoor
set_option linter.unusedVariables false
set_option linter.unusedSimpArgs false
namespace Go.Proofs.YtpmmfmlldkdfhaaDoor
open Go.RowKit

/-- What snap asks of the world. -/
def ST (w : World) : Prop := TbAt w
theorem ST.later {w w' : World} (h : ST w) (k : Below w.heap.size w w') : ST w' := TbAt.later h k
/-- The contracts of snap: St a snap q on the disk p, G the blocks that are its own. -/
structure Snap1 (V : Disk1) where
  St : World → Value → Value → Nat → Nat → (Nat → Prop) → Prop
  stK : ∀ {w w' : World} {q p : Value} {at_ room : Nat} {G : Nat → Prop}, St w q p at_ room G → (∀ k, G k → w'.heap[k]? = w.heap[k]?) → St w' q p at_ room G
  stB : ∀ {w : World} {q p : Value} {at_ room : Nat} {G : Nat → Prop}, St w q p at_ room G → ∀ k, G k → k < w.heap.size
  newY : ∀ (w : World) (p : Value) (F : Nat → Prop) (s : Dsk) (at_ room : Nat), V.Dt w p F s → 1 ≤ room → room ≤ 16384 → at_ + 2 * (room + 1) ≤ s.bl.length →
    Calls Tryd.prog 11 #[p, .int .i64 (at_ : Int), .int .i64 (room : Int)] w fun e w' => ∃ a G, e = .returned (.tuple #[.pointer (some a), .int .i64 0]) ∧ St w' (.pointer (some a)) p at_ room G ∧ (∀ k, G k → w.heap.size ≤ k) ∧ Below w.heap.size w w'
  newN : ∀ (w : World) (p : Value) (F : Nat → Prop) (s : Dsk) (at_ room : Int), V.Dt w p F s → Bd64 at_ → Bd64 room → ¬ (1 ≤ room ∧ room ≤ 16384 ∧ 0 ≤ at_ ∧ at_ + 2 * (room + 1) ≤ (s.bl.length : Int)) →
    Calls Tryd.prog 11 #[p, .int .i64 at_, .int .i64 room] w fun e w' => e = .returned (.tuple #[.pointer none, .int .i64 2]) ∧ Below w.heap.size w w'
  load : ∀ (w : World) (q p : Value) (F G : Nat → Prop) (s : Dsk) (at_ room : Nat), St w q p at_ room G → V.Dt w p F s → ST w → 1 ≤ room → at_ + 2 * (room + 1) ≤ s.bl.length → s.bl.length ≤ 1000 → s.un.length ≤ 400 →
    Calls Tryd.prog 15 #[q] w fun e w' => ∃ v, e = .returned (.tuple #[v, .int .i64 (((ldW s at_ room).2.1 : Nat) : Int), .int .i64 (((ldW s at_ room).2.2 : Nat) : Int)]) ∧ Bs w' v (ldW s at_ room).1 ∧ Ow w.heap.size v ∧ Below w.heap.size w w'
  save : ∀ (w : World) (q p : Value) (F G : Nat → Prop) (s : Dsk) (at_ room : Nat) (v : Value) (d : List Nat), St w q p at_ room G → V.Dt w p F s → (∀ k, F k → ¬ G k) → ST w → (∀ k, F k → k ≠ 0) → 1 ≤ room → at_ + 2 * (room + 1) ≤ s.bl.length → s.bl.length ≤ 1000 → s.un.length ≤ 400 → Bs w v d → Nf F v → (∀ c ∈ d, c < 256) → d.length ≤ 100000 →
    Calls Tryd.prog 13 #[q, v] w fun e w' => e = .returned (.tuple #[.int .i64 (((svR s at_ room d).1 : Nat) : Int), .int .i64 (((svR s at_ room d).2.1 : Nat) : Int)]) ∧ Ad V.Dt p F (svR s at_ room d).2.2 w w'
/-- A snap that is none, a disk that is none. -/
structure Snap0 where
  Zt : World → Value → Prop
  zL : ∀ {w w' : World} {p : Value}, Zt w p → Below w.heap.size w w' → Zt w' p
  zN : ∀ w : World, Zt w (.pointer none)
  zZ : ∀ w : World, Zt (w.alloc (.cells #[.int .i64 0, .map none, .slice none 0 0, .int .i64 0, .bool false] 66)) (.pointer (some ⟨w.heap.size, 0, none⟩))
  Qt : World → Value → Prop
  qL : ∀ {w w' : World} {p : Value}, Qt w p → Below w.heap.size w w' → Qt w' p
  qN : ∀ w : World, Qt w (.pointer none)
  qZ : ∀ w : World, Qt (w.alloc (.cells #[.pointer none, .int .i64 0, .int .i64 0] 68)) (.pointer (some ⟨w.heap.size, 0, none⟩))
  new : ∀ (w : World) (p : Value) (at_ room : Int), Zt w p → Bd64 at_ → Bd64 room →
    Calls Tryd.prog 11 #[p, .int .i64 at_, .int .i64 room] w fun e w' => e = .returned (.tuple #[.pointer none, .int .i64 1]) ∧ Below w.heap.size w w'
  load : ∀ (w : World) (q : Value), Qt w q →
    Calls Tryd.prog 15 #[q] w fun e w' => ∃ v, e = .returned (.tuple #[v, .int .i64 0, .int .i64 1]) ∧ Bs w' v [] ∧ Below w.heap.size w w'
  save : ∀ (w : World) (q v : Value) (d : List Nat), Qt w q → Bs w v d → d.length ≤ 100000 →
    Calls Tryd.prog 13 #[q, v] w fun e w' => e = .returned (.tuple #[.int .i64 0, .int .i64 1]) ∧ Below w.heap.size w w'
theorem Snap1.stL {V : Disk1} (Q : Snap1 V) {w w' : World} {q p : Value} {at_ room : Nat} {G : Nat → Prop} (h : Q.St w q p at_ room G) (k : Below w.heap.size w w') : Q.St w' q p at_ room G := Q.stK h (fun i hi => k.block i (Q.stB h i hi))
/-- The text's table is older than the law. -/
def Old (w0 : World) : Prop := ST w0
theorem old_lt {w0 : World} (h : ST w0) : 0 < w0.heap.size := World.block_lt_of_cell? _ _ (h 0 (by omega))
theorem d2SvD {V : Disk1} (Q : Snap1 V) {w0 w : World} {d r q : Value} {s t : Dsk} {N G : Nat → Prop} {at_ room : Nat} (h : D2 V w0 w d r s t N) (hT : ST w0) (hq : Q.St w q d at_ room G) (hG : ∀ k, G k → N k) (h1 : 1 ≤ room) (hr : at_ + 2 * (room + 1) ≤ s.bl.length) (hbl : s.bl.length ≤ 1000) (hu : s.un.length ≤ 400) {v : Value} {b : List Nat} (hv : Bs w v b) (ho : Ou w0.heap.size N v) (hb : ∀ c ∈ b, c < 256) (hl : b.length ≤ 100000) :
    Calls Tryd.prog 13 #[q, v] w fun e w' => e = .returned (.tuple #[.int .i64 (((svR s at_ room b).1 : Nat) : Int), .int .i64 (((svR s at_ room b).2.1 : Nat) : Int)]) ∧ D2 V w0 w' d r (svR s at_ room b).2.2 t N ∧ Kn N w w' := by
  have hbe := h.bel
  obtain ⟨F, G', h1', h2, h3, h4, h5, h6, h7⟩ := h
  refine (Q.save w q d F G s at_ room v b hq h1' (fun k hk hg => (h6 k (hG k hg)).1 hk) (hT.later hbe) (fun k hk e => by have := h3 k hk; have := old_lt hT; omega) h1 hr hbl hu hv (ou_nf (V := V) ho h3 (fun k hk => (h6 k hk).1)) hb hl).mono fun e w' ⟨e1, e2⟩ => ?_
  exact ⟨e1, D2.nextD h1' h2 h3 h4 h5 h6 h7 e2⟩
theorem d2SvR {V : Disk1} {w0 w : World} {d r : Value} {s t : Dsk} {N : Nat → Prop} {at_ room : Nat} (h : D2 V w0 w d r s t N) (hr : at_ + 2 * (room + 1) ≤ t.bl.length) (hbl : t.bl.length ≤ 1000) (hu : t.un.length ≤ 400) {v : Value} {b : List Nat} (hv : Bs w v b) (ho : Ou w0.heap.size N v) (hb : ∀ c ∈ b, c < 256) (hl : b.length ≤ 100000) :
    Calls Tryd.prog 14 #[.agg #[r, .int .i64 (at_ : Int), .int .i64 (room : Int)], v] w fun e w' => e = .returned (.tuple #[.int .i64 (((svR t at_ room b).1 : Nat) : Int), .int .i64 (((svR t at_ room b).2.1 : Nat) : Int)]) ∧ D2 V w0 w' d r s (svR t at_ room b).2.2 N ∧ Kn N w w' := by
  obtain ⟨F, G', h1', h2, h3, h4, h5, h6, h7⟩ := h
  refine (refSave h2 at_ room hr hbl v b hv (ou_nf (V := V) ho h4 (fun k hk => (h6 k hk).2.1)) hb hl hu).mono fun e w' ⟨e1, e2⟩ => ?_
  exact ⟨e1, D2.nextR h1' h2 h3 h4 h5 h6 h7 e2⟩
theorem d2LdD {V : Disk1} (Q : Snap1 V) {w0 w : World} {d r q : Value} {s t : Dsk} {N G : Nat → Prop} {at_ room : Nat} (h : D2 V w0 w d r s t N) (hT : ST w0) (hq : Q.St w q d at_ room G) (h1 : 1 ≤ room) (hr : at_ + 2 * (room + 1) ≤ s.bl.length) (hbl : s.bl.length ≤ 1000) (hu : s.un.length ≤ 400) :
    Calls Tryd.prog 15 #[q] w fun e w' => ∃ v, e = .returned (.tuple #[v, .int .i64 (((ldW s at_ room).2.1 : Nat) : Int), .int .i64 (((ldW s at_ room).2.2 : Nat) : Int)]) ∧ Bs w' v (ldW s at_ room).1 ∧ Ow w.heap.size v ∧ Below w.heap.size w w' := by
  have hbe := h.bel
  obtain ⟨F, G', h1', h2, h3, h4, h5, h6, h7⟩ := h
  exact Q.load w q d F G s at_ room hq h1' (hT.later hbe) h1 hr hbl hu
theorem d2LdR {V : Disk1} {w0 w : World} {d r : Value} {s t : Dsk} {N : Nat → Prop} {at_ room : Nat} (h : D2 V w0 w d r s t N) (hr : at_ + 2 * (room + 1) ≤ t.bl.length) (hbl : t.bl.length ≤ 1000) (hu : t.un.length ≤ 400) :
    Calls Tryd.prog 16 #[.agg #[r, .int .i64 (at_ : Int), .int .i64 (room : Int)]] w fun e w' => ∃ v, e = .returned (.tuple #[v, .int .i64 (((ldW t at_ room).2.1 : Nat) : Int), .int .i64 (((ldW t at_ room).2.2 : Nat) : Int)]) ∧ Bs w' v (ldW t at_ room).1 ∧ Ow w.heap.size v ∧ Below w.heap.size w w' := by
  obtain ⟨F, G', h1', h2, h3, h4, h5, h6, h7⟩ := h
  exact refLoad h2 at_ room hr hbl (by omega)
/-- What is kept. -/
theorem Kn.cell {N : Nat → Prop} {w w' : World} (h : Kn N w w') {a : Addr} {v : Value} (hn : N a.block) (hc : w.cell? a = some v) : w'.cell? a = some v := (World.cell?_of_block (w := w) (h _ hn)).trans hc
theorem Snap1.stN {V : Disk1} (Q : Snap1 V) {w w' : World} {q p : Value} {at_ room : Nat} {G N : Nat → Prop} (h : Q.St w q p at_ room G) (hG : ∀ k, G k → N k) (k : Kn N w w') : Q.St w' q p at_ room G := Q.stK h (fun i hi => k i (hG i hi))
/-- A snap and a disk alone. -/
def Sw (V : Disk1) (Q : Snap1 V) (w0 w : World) (d q : Value) (s : Dsk) (at_ room : Nat) : Prop := ∃ F G : Nat → Prop, V.Dt w d F s ∧ Q.St w q d at_ room G ∧ (∀ k, F k → w0.heap.size ≤ k) ∧ (∀ k, G k → w0.heap.size ≤ k) ∧ (∀ k, F k → ¬ G k) ∧ Below w0.heap.size w0 w
theorem Sw.bel {V : Disk1} {Q : Snap1 V} {w0 w : World} {d q : Value} {s : Dsk} {at_ room : Nat} (h : Sw V Q w0 w d q s at_ room) : Below w0.heap.size w0 w := by
  obtain ⟨F, G, h1, h2, h3, h4, h5, h6⟩ := h
  exact h6
theorem Sw.later {V : Disk1} {Q : Snap1 V} {w0 w w' : World} {d q : Value} {s : Dsk} {at_ room : Nat} (h : Sw V Q w0 w d q s at_ room) (k : Below w.heap.size w w') : Sw V Q w0 w' d q s at_ room := by
  obtain ⟨F, G, h1, h2, h3, h4, h5, h6⟩ := h
  exact ⟨F, G, V.dtK h1 (fun i hi => k.block i (V.dtB h1 i hi)) k.size, Q.stL h2 k, h3, h4, h5, bchain h6 k⟩
theorem Sw.next {V : Disk1} {Q : Snap1 V} {w0 w w' : World} {d q : Value} {s' : Dsk} {at_ room : Nat} {F G : Nat → Prop} (h2 : Q.St w q d at_ room G) (h3 : ∀ k, F k → w0.heap.size ≤ k) (h4 : ∀ k, G k → w0.heap.size ≤ k) (h5 : ∀ k, F k → ¬ G k) (h6 : Below w0.heap.size w0 w) (h : Ad V.Dt d F s' w w') : Sw V Q w0 w' d q s' at_ room := by
  obtain ⟨F', q1, q2, q3⟩ := h
  have hB := h6.size
  refine ⟨F', G, q1, Q.stK h2 (fun i hi => q3.block i (Q.stB h2 i hi) (fun hf => h5 i hf hi)), fun k hk => ?_, h4, fun k hk hg => ?_, q3.next h6 h3 hB⟩
  · rcases q2 k hk with x | x
    · exact h3 k x
    · omega
  · rcases q2 k hk with x | x
    · exact h5 k x hg
    · have := Q.stB h2 k hg; omega
theorem swNew {V : Disk1} (Q : Snap1 V) {w0 w : World} {d : Value} {s : Dsk} (h : Dw V w0 w d s) (at_ room : Nat) (h1 : 1 ≤ room) (h2 : room ≤ 16384) (hr : at_ + 2 * (room + 1) ≤ s.bl.length) :
    Calls Tryd.prog 11 #[d, .int .i64 (at_ : Int), .int .i64 (room : Int)] w fun e w' => ∃ a, e = .returned (.tuple #[.pointer (some a), .int .i64 0]) ∧ Sw V Q w0 w' d (.pointer (some a)) s at_ room := by
  obtain ⟨F, q1, q2, q3⟩ := h
  refine (Q.newY w d F s at_ room q1 h1 h2 hr).mono fun e w' ⟨a, G, e1, e2, e3, e4⟩ => ⟨a, e1, F, G, V.dtK q1 (fun i hi => e4.block i (V.dtB q1 i hi)) e4.size, e2, q2, fun k hk => Nat.le_trans q3.size (e3 k hk), fun k hk hg => ?_, bchain q3 e4⟩
  have := V.dtB q1 k hk
  have := e3 k hg
  omega
theorem swSave {V : Disk1} {Q : Snap1 V} {w0 w : World} {d q : Value} {s : Dsk} {at_ room : Nat} (h : Sw V Q w0 w d q s at_ room) (hT : ST w0) (h1 : 1 ≤ room) (hr : at_ + 2 * (room + 1) ≤ s.bl.length) (hbl : s.bl.length ≤ 1000) (hu : s.un.length ≤ 400) {v : Value} {b : List Nat} (hv : Bs w v b) (hn : (∃ B, Ow B v ∧ ∀ F G, V.Dt w d F s → Q.St w q d at_ room G → ∀ k, F k → k < B) ∨ Lo w0.heap.size v) (hb : ∀ c ∈ b, c < 256) (hl : b.length ≤ 100000) :
    Calls Tryd.prog 13 #[q, v] w fun e w' => e = .returned (.tuple #[.int .i64 (((svR s at_ room b).1 : Nat) : Int), .int .i64 (((svR s at_ room b).2.1 : Nat) : Int)]) ∧ Sw V Q w0 w' d q (svR s at_ room b).2.2 at_ room := by
  have hbe := h.bel
  obtain ⟨F, G, q1, q2, q3, q4, q5, q6⟩ := h
  have hnf : Nf F v := by
    rcases hn with ⟨B, h1, h2⟩ | h1
    · exact ow_nf h1 (h2 F G q1 q2)
    · exact fun a n c e hn hf => by have := h1 a n c e hn; have := q3 _ hf; omega
  exact (Q.save w q d F G s at_ room v b q2 q1 q5 (hT.later hbe) (fun k hk e => by have := q3 k hk; have := old_lt hT; omega) h1 hr hbl hu hv hnf hb hl).mono fun e w' ⟨e1, e2⟩ => ⟨e1, Sw.next q2 q3 q4 q5 q6 e2⟩
theorem swLoad {V : Disk1} {Q : Snap1 V} {w0 w : World} {d q : Value} {s : Dsk} {at_ room : Nat} (h : Sw V Q w0 w d q s at_ room) (hT : ST w0) (h1 : 1 ≤ room) (hr : at_ + 2 * (room + 1) ≤ s.bl.length) (hbl : s.bl.length ≤ 1000) (hu : s.un.length ≤ 400) :
    Calls Tryd.prog 15 #[q] w fun e w' => ∃ v, e = .returned (.tuple #[v, .int .i64 (((ldW s at_ room).2.1 : Nat) : Int), .int .i64 (((ldW s at_ room).2.2 : Nat) : Int)]) ∧ Bs w' v (ldW s at_ room).1 ∧ Ow w.heap.size v ∧ Below w.heap.size w w' := by
  have hbe := h.bel
  obtain ⟨F, G, q1, q2, q3, q4, q5, q6⟩ := h
  exact Q.load w q d F G s at_ room q2 q1 (hT.later hbe) h1 hr hbl hu
theorem swArm {V : Disk1} {Q : Snap1 V} {w0 w : World} {d q : Value} {s : Dsk} {at_ room : Nat} (h : Sw V Q w0 w d q s at_ room) (n : Int) (hn : Bd64 n) :
    Calls Tryd.prog 18 #[d, .int .i64 n] w fun e w' => e = .returned (.tuple #[]) ∧ Sw V Q w0 w' d q (arS s n) at_ room := by
  obtain ⟨F, G, q1, q2, q3, q4, q5, q6⟩ := h
  exact (V.arm w d F s n q1 hn).mono fun e w' ⟨e1, e2⟩ => ⟨e1, Sw.next q2 q3 q4 q5 q6 e2⟩
theorem swCrash {V : Disk1} {Q : Snap1 V} {w0 w : World} {d q : Value} {s : Dsk} {at_ room : Nat} (h : Sw V Q w0 w d q s at_ room) {v : Value} {fs : List (Int × Int)} (hv : Fts w v fs) (ho : Lo w0.heap.size v) (hl : fs.length ≤ 1000) (hu : s.un.length ≤ 1000) :
    Calls Tryd.prog 20 #[d, v] w fun e w' => e = .returned (.int .i64 0) ∧ Sw V Q w0 w' d q (crS s fs) at_ room := by
  obtain ⟨F, G, q1, q2, q3, q4, q5, q6⟩ := h
  exact (V.crash w d F s v fs q1 hv (fun a n c e hn hf => by have := ho a n c e hn; have := q3 _ hf; omega) hl hu).mono fun e w' ⟨e1, e2⟩ => ⟨e1, Sw.next q2 q3 q4 q5 q6 e2⟩
end Go.Proofs.YtpmmfmlldkdfhaaDoor
