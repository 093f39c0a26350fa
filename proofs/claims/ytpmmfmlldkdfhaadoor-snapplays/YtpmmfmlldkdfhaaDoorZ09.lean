/-
Two texts, and two lists of numbers, held against each other (regattaref11.Same, regattaref04.Same); numbers copied (regattalaw12.wide, plain).
Layer 15: the contracts of disk; a disk that a law has made; the document's Full.
-/
import Derived.Test.YtpmmfmlldkdfhaaDoorZ04
import Derived.Test.YtpmmfmlldkdfhaaDoorZ05

set_option linter.unusedVariables false
set_option linter.unusedSimpArgs false
namespace Go.Proofs.YtpmmfmlldkdfhaaDoor
open Go.RowKit

theorem below_drewP {B : Nat} {a w : World} (h : Below B a w) (k : Nat) : Below B a (w.drewN k) := ⟨h.os, h.tape, h.output, h.size, h.block⟩
theorem neF {x y : Int} (h : x = y) : (x != y) = false := by simp [h]
theorem neT {x y : Int} (h : ¬ x = y) : (x != y) = true := by simp [h]
theorem ext0 {α : Type} (d : α) {l m : List α} (h1 : l.length = m.length) (h2 : ∀ k, k < l.length → l.getD k d = m.getD k d) : l = m := by
  apply List.ext_getElem h1
  intro k q1 q2
  have := h2 k q1
  simpa [List.getD, q1, q2] using this
set_option maxRecDepth 100000 in
set_option maxHeartbeats 4000000 in
theorem sameB (va vb : Value) (l m : List Nat) (w : World) (hA : Bs w va l) (hB : Bs w vb m) :
    Calls Tryd.prog 17 #[va, vb] w fun e w' => e = .returned (.bool (decide (l = m))) ∧ Below w.heap.size w w' := by
  have HA : Hid (Bs w va l) := hA
  have HB : Hid (Bs w vb m) := hB
  obtain ⟨ad, cap, rfl, k1, k2⟩ := hA.len
  obtain ⟨bd, bap, rfl, q1, q2⟩ := hB.len
  unfold maxLen at k2 q2
  clear hA hB
  by_cases hlen : l.length = m.length
  · have HE : Hid (l.length = m.length) := hlen
    have hne : ((l.length : Int) != (m.length : Int)) = false := by simp [hlen]
    have hnI : (l.length : Int) = (m.length : Int) := by omega
    obtain ⟨n, hn⟩ : ∃ n, l.length = n := ⟨_, rfl⟩
    obtain ⟨n2, hn2⟩ : ∃ n2, m.length = n2 := ⟨_, rfl⟩
    have HN : Hid (l.length = n ∧ m.length = n) := ⟨hn, by omega⟩
    rw [hn, hn2] at hlen
    rw [hn] at k1 HA ⊢
    rw [hn2] at q1 HB ⊢
    subst hlen
    clear hn hn2 hnI HE hne
    go_enter Tryd.func17, Tryd.ntmps17
    go_upto_region 4 with fail
    go_loopw [5] (fun s5 wr => ∃ j : Nat, j ≤ n ∧ s5 = .int .i64 (j : Int) ∧ Hid (∀ k, k < j → l.getD k 0 = m.getD k 0) ∧ Hid (Below w.heap.size w wr)) (fun s5 _ => n - (intOf s5).toNat)
    case atStart => exact ⟨0, by omega, rfl, fun k hk => by omega, Below.refl _ _⟩
    case round =>
      obtain ⟨j, hj, rfl, HS, HW⟩ := hrel
      by_cases hlt : j < n
      · have hjI : (j : Int) < (n : Int) := by omega
        have hN := HN.out
        obtain ⟨b, o, rfl, ca⟩ := HA.out.cel j (by omega)
        obtain ⟨b2, o2, rfl, cb⟩ := HB.out.cel j (by omega)
        have cA := cell_later HW.out ca
        have cB := cell_later HW.out cb
        by_cases heq : l.getD j 0 = m.getD j 0
        · have HS2 : Hid (∀ k, k < j + 1 → l.getD k 0 = m.getD k 0) := fun k hk => by
            by_cases e : k = j
            · subst e; exact heq
            · exact HS.out k (by omega)
          have hne : (((l.getD j 0 : Nat) : Int) != ((m.getD j 0 : Nat) : Int)) = false := neF (by rw [heq])
          have heq2 : ((l.getD j 0 : Nat) : Int) = ((m.getD j 0 : Nat) : Int) := by rw [heq]
          clear ca cb HS hN heq
          generalize l.getD j 0 = x at *
          generalize m.getD j 0 = y at *
          go_wp2
          go_quiet (fail)
          go_wp2
          go_roundw
          case rel => exact ⟨j + 1, by omega, by go_num, HS2, below_drewP HW.out _⟩
          case measure => simp [intOf]; omega
        · have HF : Hid (decide (l = m) = false) := by
            show _ = _
            simp only [decide_eq_false_iff_not]
            intro e
            exact heq (by rw [e])
          have hne : (((l.getD j 0 : Nat) : Int) != ((m.getD j 0 : Nat) : Int)) = true := neT (by omega)
          have heq2 : ¬ ((l.getD j 0 : Nat) : Int) = ((m.getD j 0 : Nat) : Int) := by omega
          clear ca cb HS hN heq
          generalize l.getD j 0 = x at *
          generalize m.getD j 0 = y at *
          go_wp2
          go_quiet (fail)
          go_wp2
          go_ret
          exact ⟨by rw [HF.out]; rfl, below_drewP HW.out _⟩
      · obtain rfl : j = n := by omega
        have hjI : ¬ (j : Int) < (j : Int) := by omega
        have HF : Hid (decide (l = m) = true) := by
          show _ = _
          simp only [decide_eq_true_eq]
          have hN := HN.out
          exact ext0 0 (by omega) (fun k hk => HS.out k (by omega))
        go_wp2
        go_ret
        exact ⟨by rw [HF.out]; rfl, HW.out⟩
  · have hne : ((l.length : Int) != (m.length : Int)) = true := neT (by omega)
    have hnI : ¬ (l.length : Int) = (m.length : Int) := by omega
    have HF : Hid (decide (l = m) = false) := by
      show _ = _
      simp only [decide_eq_false_iff_not]
      intro e
      exact hlen (by rw [e])
    rw [HF.out]
    clear HA HB
    go_enter Tryd.func17, Tryd.ntmps17
    go_wp2
    go_ret
    exact ⟨rfl, Below.refl _ _⟩
theorem is_take_succ {l : List Int} {j : Nat} (h : j < l.length) : l.take (j + 1) = l.take j ++ [l.getD j 0] := by
  rw [List.take_add_one]
  simp [List.getD, h]
theorem make_i64 (n : Nat) (hn : n ≤ 1000000) (w : World) : (Instr.makeSlice 127 (.int .i64 0) (.int .i64 (n : Int))).run Tryd.prog w = .ok (.slice (some ⟨w.heap.size, 0, none⟩) 0 n) (w.alloc (.cells (madeCells #[.int .i64 0] n) 3)) := by
  obtain ⟨i0, hi, hz0, hz1, hz2⟩ := i64Info
  have h := run_make (P := Tryd.prog) w 127 3 i0 (.int .i64 0) Tryd.underlying127 hi hz0 .i64 .i64 0 (n : Int) (by omega) (by omega) (by rw [hz2]; omega) (by omega)
  rw [hz1, Nat.mul_one] at h
  exact h
theorem oi_made (n : Nat) (hn : n ≤ 1000000) (w : World) : Oi w.heap.size (w.alloc (.cells (madeCells #[.int .i64 0] n) 3)) (.slice (some ⟨w.heap.size, 0, none⟩) 0 n) [] :=
  World.ownsRow_made w _ n (Nat.le_refl _) (by unfold maxLen; omega) (by rw [size_madeCells, Nat.mul_one])
end Go.Proofs.YtpmmfmlldkdfhaaDoor
set_option linter.unusedVariables false
set_option linter.unusedSimpArgs false
namespace Go.Proofs.YtpmmfmlldkdfhaaDoor
open Go.RowKit

/-- A list of fates in memory. -/
def Fts (w : World) (v : Value) (fs : List (Int × Int)) : Prop :=
  ∃ (ad : Option Addr) (cap b o : Nat), v = .slice ad fs.length cap ∧ fs.length ≤ cap ∧ cap ≤ maxLen ∧ (0 < fs.length → ad = some ⟨b, o, none⟩) ∧
    ∀ j, j < fs.length → w.cell? ⟨b, o + j * 2, none⟩ = some (.int .i64 (fs.getD j (0, 0)).1) ∧ w.cell? ⟨b, o + j * 2 + 1, none⟩ = some (.int .i64 (fs.getD j (0, 0)).2)
theorem Fts.later {w w' : World} {v : Value} {fs : List (Int × Int)} (h : Fts w v fs) (k : Below w.heap.size w w') : Fts w' v fs := by
  obtain ⟨ad, cap, b, o, e, h1, h2, h3, h4⟩ := h
  exact ⟨ad, cap, b, o, e, h1, h2, h3, fun j hj => ⟨cell_later k (h4 j hj).1, cell_later k (h4 j hj).2⟩⟩
theorem fts_nil (w : World) : Fts w (.slice none 0 0) [] := ⟨none, 0, 0, 0, rfl, Nat.le_refl _, Nat.zero_le _, fun h => by simp at h, fun j hj => by simp at hj⟩
/-- What 64 bits hold. -/
def Bd64 (n : Int) : Prop := -9223372036854775808 ≤ n ∧ n ≤ 9223372036854775807
/-- Bytes that may be written. -/
def Uf (w : World) (v : Value) : Prop := ∀ (b o n cap : Nat), v = .slice (some ⟨b, o, none⟩) n cap → ∀ k, k < n → w.frozen? ⟨b, o + k, none⟩ = false
/-- What a call with a disk leaves. -/
def Ad (T : World → Value → (Nat → Prop) → Dsk → Prop) (p : Value) (F : Nat → Prop) (s : Dsk) (w w' : World) : Prop := ∃ F' : Nat → Prop, T w' p F' s ∧ Gr F F' w ∧ Kp F w w'
/-- The contracts of disk: T a disk, F the blocks that are its own. -/
structure Disk1 where
  Dt : World → Value → (Nat → Prop) → Dsk → Prop
  dtK : ∀ {w w' : World} {p : Value} {F : Nat → Prop} {s : Dsk}, Dt w p F s → (∀ k, F k → w'.heap[k]? = w.heap[k]?) → w.heap.size ≤ w'.heap.size → Dt w' p F s
  dtB : ∀ {w : World} {p : Value} {F : Nat → Prop} {s : Dsk}, Dt w p F s → ∀ k, F k → k < w.heap.size
  dtO : ∀ {w : World} {p : Value} {F : Nat → Prop} {s : Dsk}, Dt w p F s → OkD s
  new : ∀ (w : World) (n : Nat), 1 ≤ n → n ≤ 16384 →
    Calls Tryd.prog 9 #[.int .i64 (n : Int)] w fun e w' => ∃ p F, e = .returned (.tuple #[p, .int .i64 0]) ∧ Dt w' p F (dNew n) ∧ (∀ k, F k → w.heap.size ≤ k) ∧ Below w.heap.size w w'
  newN : ∀ (w : World) (n : Int), n < 1 ∨ 16384 < n →
    Calls Tryd.prog 9 #[.int .i64 n] w fun e w' => e = .returned (.tuple #[.pointer none, .int .i64 2]) ∧ Below w.heap.size w w'
  write : ∀ (w : World) (p : Value) (F : Nat → Prop) (s : Dsk) (i : Int) (v : Value) (b : List Nat), Dt w p F s → Bs w v b → Nf F v → (∀ c ∈ b, c < 256) → b.length ≤ 2000000 → s.un.length ≤ 1000 →
    Calls Tryd.prog 23 #[p, .int .i64 i, v] w fun e w' => e = .returned (.int .i64 ((wrE s i b : Nat) : Int)) ∧ Ad Dt p F (wrS s i b) w w'
  read : ∀ (w : World) (p : Value) (F : Nat → Prop) (s : Dsk) (i : Int), Dt w p F s →
    Calls Tryd.prog 55 #[p, .int .i64 i] w fun e w' => ∃ v, e = .returned (.tuple #[v, .int .i64 ((dAsk s i : Nat) : Int)]) ∧ Bs w' v (rdB s i) ∧ (Ow w.heap.size v ∧ Uf w' v) ∧ Below w.heap.size w w'
  safeY : ∀ (w : World) (p : Value) (F : Nat → Prop) (s : Dsk) (i : Nat), Dt w p F s → i < s.bl.length →
    Calls Tryd.prog 44 #[p, .int .i64 (i : Int)] w fun e w' => ∃ v, e = .returned (.tuple #[v, .int .i64 0]) ∧ Bs w' v (s.bl.getD i []) ∧ Ow w.heap.size v ∧ Below w.heap.size w w'
  safeN : ∀ (w : World) (p : Value) (F : Nat → Prop) (s : Dsk) (i : Int), Dt w p F s → i < 0 ∨ (s.bl.length : Int) ≤ i →
    Calls Tryd.prog 44 #[p, .int .i64 i] w fun e w' => ∃ v, e = .returned (.tuple #[v, .int .i64 151]) ∧ Bs w' v [] ∧ Below w.heap.size w w'
  flush : ∀ (w : World) (p : Value) (F : Nat → Prop) (s : Dsk), Dt w p F s → s.un.length ≤ 1000 →
    Calls Tryd.prog 25 #[p] w fun e w' => e = .returned (.int .i64 ((flE s : Nat) : Int)) ∧ Ad Dt p F (flS s) w w'
  arm : ∀ (w : World) (p : Value) (F : Nat → Prop) (s : Dsk) (n : Int), Dt w p F s → Bd64 n →
    Calls Tryd.prog 18 #[p, .int .i64 n] w fun e w' => e = .returned (.tuple #[]) ∧ Ad Dt p F (arS s n) w w'
  blocks : ∀ (w : World) (p : Value) (F : Nat → Prop) (s : Dsk), Dt w p F s →
    Calls Tryd.prog 28 #[p] w fun e w' => e = .returned (.int .i64 ((s.bl.length : Nat) : Int)) ∧ Below w.heap.size w w'
  down : ∀ (w : World) (p : Value) (F : Nat → Prop) (s : Dsk), Dt w p F s →
    Calls Tryd.prog 45 #[p] w fun e w' => e = .returned (.bool s.dn) ∧ Below w.heap.size w w'
  crash : ∀ (w : World) (p : Value) (F : Nat → Prop) (s : Dsk) (v : Value) (fs : List (Int × Int)), Dt w p F s → Fts w v fs → Nf F v → fs.length ≤ 1000 → s.un.length ≤ 1000 →
    Calls Tryd.prog 20 #[p, v] w fun e w' => e = .returned (.int .i64 0) ∧ Ad Dt p F (crS s fs) w w'
/-- A disk that the law has made, w0 the world at its beginning. -/
def Dw (V : Disk1) (w0 w : World) (p : Value) (s : Dsk) : Prop := ∃ F : Nat → Prop, V.Dt w p F s ∧ (∀ k, F k → w0.heap.size ≤ k) ∧ Below w0.heap.size w0 w
/-- And v isn't its own. -/
def DwN (V : Disk1) (w0 w : World) (p : Value) (s : Dsk) (v : Value) : Prop := ∃ F : Nat → Prop, V.Dt w p F s ∧ (∀ k, F k → w0.heap.size ≤ k) ∧ Below w0.heap.size w0 w ∧ Nf F v
theorem Dw.bel {V : Disk1} {w0 w : World} {p : Value} {s : Dsk} (h : Dw V w0 w p s) : Below w0.heap.size w0 w := h.choose_spec.2.2
theorem Dw.ok {V : Disk1} {w0 w : World} {p : Value} {s : Dsk} (h : Dw V w0 w p s) : OkD s := V.dtO h.choose_spec.1
theorem Dw.later {V : Disk1} {w0 w w' : World} {p : Value} {s : Dsk} (h : Dw V w0 w p s) (k : Below w.heap.size w w') : Dw V w0 w' p s := by
  obtain ⟨F, h1, h2, h3⟩ := h
  exact ⟨F, V.dtK h1 (fun i hi => k.block i (V.dtB h1 i hi)) k.size, h2, bchain h3 k⟩
/-- A list that is older than the law. -/
theorem Dw.old {V : Disk1} {w0 w : World} {p : Value} {s : Dsk} (h : Dw V w0 w p s) {v : Value} (hv : Lo w0.heap.size v) : DwN V w0 w p s v := by
  obtain ⟨F, h1, h2, h3⟩ := h
  exact ⟨F, h1, h2, h3, fun a n c e hn q => by have := hv a n c e hn; have := h2 _ q; omega⟩
/-- A list that is newer than the disk. -/
theorem Dw.young {V : Disk1} {w0 w w' : World} {p : Value} {s : Dsk} (h : Dw V w0 w p s) (k : Below w.heap.size w w') {v : Value} (hv : Ow w.heap.size v) : DwN V w0 w' p s v := by
  obtain ⟨F, h1, h2, h3⟩ := h
  exact ⟨F, V.dtK h1 (fun i hi => k.block i (V.dtB h1 i hi)) k.size, h2, bchain h3 k, fun a n c e hn q => by have := hv a n c e hn; have := V.dtB h1 _ q; omega⟩
theorem Dw.next {V : Disk1} {w0 w w' : World} {p : Value} {s' : Dsk} {F : Nat → Prop} (h2 : ∀ k, F k → w0.heap.size ≤ k) (h3 : Below w0.heap.size w0 w) (h : Ad V.Dt p F s' w w') : Dw V w0 w' p s' := by
  obtain ⟨F', q1, q2, q3⟩ := h
  have hB := h3.size
  exact ⟨F', q1, fun k hk => by rcases q2 k hk with q | q; exact h2 k q; omega, q3.next h3 h2 hB⟩
theorem dwNew (V : Disk1) (w0 w : World) (n : Nat) (h1 : 1 ≤ n) (h2 : n ≤ 16384) (hb : Below w0.heap.size w0 w) : Calls Tryd.prog 9 #[.int .i64 (n : Int)] w fun e w' => ∃ p, e = .returned (.tuple #[p, .int .i64 0]) ∧ Dw V w0 w' p (dNew n) :=
  (V.new w n h1 h2).mono fun e w' ⟨p, F, q1, q2, q3, q4⟩ => ⟨p, q1, F, q2, fun k hk => Nat.le_trans hb.size (q3 k hk), bchain hb q4⟩
theorem dwWrite {V : Disk1} {w0 w : World} {p : Value} {s : Dsk} {v : Value} {b : List Nat} (h : DwN V w0 w p s v) (i : Int) (hv : Bs w v b) (hb : ∀ c ∈ b, c < 256) (hl : b.length ≤ 2000000) (hu : s.un.length ≤ 1000) : Calls Tryd.prog 23 #[p, .int .i64 i, v] w fun e w' => e = .returned (.int .i64 ((wrE s i b : Nat) : Int)) ∧ Dw V w0 w' p (wrS s i b) := by
  obtain ⟨F, h1, h2, h3, h4⟩ := h
  exact (V.write w p F s i v b h1 hv h4 hb hl hu).mono fun e w' ⟨q1, q2⟩ => ⟨q1, Dw.next h2 h3 q2⟩
theorem dwRead {V : Disk1} {w0 w : World} {p : Value} {s : Dsk} (h : Dw V w0 w p s) (i : Int) : Calls Tryd.prog 55 #[p, .int .i64 i] w fun e w' => ∃ v, e = .returned (.tuple #[v, .int .i64 ((dAsk s i : Nat) : Int)]) ∧ Bs w' v (rdB s i) ∧ Ow w.heap.size v ∧ Below w.heap.size w w' := by
  obtain ⟨F, h1, h2, h3⟩ := h
  exact (V.read w p F s i h1).mono fun e w' ⟨v, q1, q2, q3, q4⟩ => ⟨v, q1, q2, q3.1, q4⟩
theorem dwSafe {V : Disk1} {w0 w : World} {p : Value} {s : Dsk} (h : Dw V w0 w p s) (i : Nat) (hi : i < s.bl.length) : Calls Tryd.prog 44 #[p, .int .i64 (i : Int)] w fun e w' => ∃ v, e = .returned (.tuple #[v, .int .i64 0]) ∧ Bs w' v (s.bl.getD i []) ∧ Ow w.heap.size v ∧ Below w.heap.size w w' := by
  obtain ⟨F, h1, h2, h3⟩ := h
  exact V.safeY w p F s i h1 hi
theorem dwFlush {V : Disk1} {w0 w : World} {p : Value} {s : Dsk} (h : Dw V w0 w p s) (hu : s.un.length ≤ 1000) : Calls Tryd.prog 25 #[p] w fun e w' => e = .returned (.int .i64 ((flE s : Nat) : Int)) ∧ Dw V w0 w' p (flS s) := by
  obtain ⟨F, h1, h2, h3⟩ := h
  exact (V.flush w p F s h1 hu).mono fun e w' ⟨q1, q2⟩ => ⟨q1, Dw.next h2 h3 q2⟩
theorem dwArm {V : Disk1} {w0 w : World} {p : Value} {s : Dsk} (h : Dw V w0 w p s) (n : Int) (hn : Bd64 n) : Calls Tryd.prog 18 #[p, .int .i64 n] w fun e w' => e = .returned (.tuple #[]) ∧ Dw V w0 w' p (arS s n) := by
  obtain ⟨F, h1, h2, h3⟩ := h
  exact (V.arm w p F s n h1 hn).mono fun e w' ⟨q1, q2⟩ => ⟨q1, Dw.next h2 h3 q2⟩
theorem dwDown {V : Disk1} {w0 w : World} {p : Value} {s : Dsk} (h : Dw V w0 w p s) : Calls Tryd.prog 45 #[p] w fun e w' => e = .returned (.bool s.dn) ∧ Dw V w0 w' p s := by
  have h' := h
  obtain ⟨F, h1, h2, h3⟩ := h
  exact (V.down w p F s h1).mono fun e w' ⟨q1, q2⟩ => ⟨q1, h'.later q2⟩
theorem dwCrash {V : Disk1} {w0 w : World} {p : Value} {s : Dsk} {v : Value} {fs : List (Int × Int)} (h : DwN V w0 w p s v) (hv : Fts w v fs) (hl : fs.length ≤ 1000) (hu : s.un.length ≤ 1000) : Calls Tryd.prog 20 #[p, v] w fun e w' => e = .returned (.int .i64 0) ∧ Dw V w0 w' p (crS s fs) := by
  obtain ⟨F, h1, h2, h3, h4⟩ := h
  exact (V.crash w p F s v fs h1 hv h4 hl hu).mono fun e w' ⟨q1, q2⟩ => ⟨q1, Dw.next h2 h3 q2⟩
/-! The document's Full. -/
theorem make_by15 (n : Nat) (hn : n ≤ 2000000) (w : World) : (Instr.makeSlice 39 (.int .i64 (n : Int)) (.int .i64 (n : Int))).run Tryd.prog w = .ok (.slice (some ⟨w.heap.size, 0, none⟩) n n) (w.alloc (.cells (madeCells #[.int .u8 0] n) 5)) := by
  obtain ⟨i0, hi, hz0, hz1, hz2⟩ := info_parts dinfo_byte
  have h := run_make (P := Tryd.prog) w 39 5 i0 (.int .u8 0) Tryd.underlying39 hi hz0 .i64 .i64 (n : Int) (n : Int) (by omega) (by omega) (by rw [hz2]; omega) (by omega)
  rw [hz1, Nat.mul_one] at h
  exact h
theorem full_get (b : List Nat) (k : Nat) : (full b).getD k 0 = b.getD k 0 := by
  unfold full
  simp only [List.getD, List.getElem?_append]
  split
  · rfl
  · rename_i q
    rw [List.getElem?_eq_none (l := b) (by omega), List.getElem?_replicate]
    split <;> rfl
theorem full_len {b : List Nat} (h : b.length ≤ 128) : (full b).length = 128 := by
  unfold full
  rw [List.length_append, List.length_replicate]
  omega
set_option maxRecDepth 100000 in
set_option maxHeartbeats 4000000 in
theorem refFull (v : Value) (l : List Nat) (hl : l.length ≤ 128) (w : World) (h : Bs w v l) :
    Calls Tryd.prog 42 #[v] w fun e w' => ∃ v', e = .returned v' ∧ Bs w' v' (full l) ∧ Ow w.heap.size v' ∧ Below w.heap.size w w' := by
  have HL : Hid (Bs w v l) := h
  obtain ⟨ad, cap, rfl, k1, k2⟩ := h.len
  obtain ⟨n, hn⟩ : ∃ n, l.length = n := ⟨_, rfl⟩
  have HN : Hid (l.length = n) := hn
  rw [hn] at k1 hl HL ⊢
  clear h hn
  have hmk : ∀ W : World, (Instr.makeSlice 39 (.int .i64 128) (.int .i64 128)).run Tryd.prog W = .ok (.slice (some ⟨W.heap.size, 0, none⟩) 128 128) (W.alloc (.cells (madeCells #[.int .u8 0] 128) 5)) := fun W => make_by15 128 (by omega) W
  obtain ⟨wA, hwA⟩ : ∃ wA, wA = w.alloc (.cells (madeCells #[.int .u8 0] 128) 5) := ⟨_, rfl⟩
  have HA : Hid (Rw w.heap.size 128 (by8 (fun _ => 0)) wA ∧ Below w.heap.size w wA ∧ wA.heap.size = w.heap.size + 1) := by
    rw [hwA]
    exact ⟨Rw.made w (.int .u8 0) 128 5, bel1 _ _, by simp⟩
  go_enter Tryd.func42, Tryd.ntmps42
  go_upto_region 3 with fail
  rw [← hwA]
  clear hwA hmk
  go_loopw [4] (fun s4 wr => ∃ j : Nat, j ≤ n ∧ s4 = .int .i64 (j : Int) ∧ Hid (Rw w.heap.size 128 (by8 (fun k => if k < j then l.getD k 0 else 0)) wr) ∧ Hid (Below w.heap.size w wr)) (fun s4 _ => n - (intOf s4).toNat)
  case atStart => exact ⟨0, by omega, rfl, HA.out.1.congr (fun k _ => by simp [by8]), HA.out.2.1⟩
  case round =>
    obtain ⟨j, hj, rfl, HR, HB⟩ := hrel
    by_cases hlt : j < n
    · have hjI : (j : Int) < (n : Int) := by omega
      have hj8 : (j : Int) < 128 := by omega
      have hN := HN.out
      obtain ⟨b, o, rfl, ca⟩ := HL.out.cel j (by omega)
      have hbw : b < w.heap.size := World.block_lt_of_cell? _ _ ca
      have cA : wr.cell? ⟨b, o + j, none⟩ = some (.int .u8 ((l.getD j 0 : Nat) : Int)) := (HB.out.cell hbw).trans ca
      have cB := HR.out.c j (by omega)
      have fB := HR.out.f j (by omega)
      have HR2 : Hid (Rw w.heap.size 128 (by8 (fun k => if k < j + 1 then l.getD k 0 else 0)) (wr.setCell ⟨w.heap.size, j, none⟩ (.int .u8 ((l.getD j 0 : Nat) : Int)))) := by
        refine (HR.out.set j _).congr (fun k hk => ?_)
        unfold by8
        by_cases e : k = j
        · subst e; simp
        · by_cases e2 : k < j
          · simp [e, e2, show k < j + 1 by omega]
          · simp [e, e2, show ¬ k < j + 1 by omega]
      have HB2 : Hid (Below w.heap.size w (wr.setCell ⟨w.heap.size, j, none⟩ (.int .u8 ((l.getD j 0 : Nat) : Int)))) := HB.out.setCell (Nat.le_refl _) _
      clear ca hbw hN HR HB
      generalize l.getD j 0 = x at *
      go_wp2
      go_roundw
      case rel => exact ⟨j + 1, by omega, by go_num, HR2, HB2⟩
      case measure => simp [intOf]; omega
    · obtain rfl : j = n := by omega
      have hjI : ¬ (j : Int) < (j : Int) := by omega
      have HF : Hid (Bs wr (.slice (some ⟨w.heap.size, 0, none⟩) 128 128) (full l)) := by
        have e := full_len (b := l) (by have := HN.out; omega)
        refine ⟨_, 128, w.heap.size, 0, by rw [e], by omega, ⟨by unfold maxLen; omega, fun e => by cases e⟩, fun _ => rfl, fun k hk => ?_⟩
        rw [e] at hk
        rw [Nat.zero_add, HR.out.c k hk]
        unfold by8 b8f
        rw [full_get]
        by_cases q : k < j
        · simp [q]
        · have : l.getD k 0 = 0 := by simp [List.getD, List.getElem?_eq_none (l := l) (i := k) (by have := HN.out; omega)]
          rw [this]
          simp [q]
      go_wp2
      go_ret
      exact ⟨_, rfl, HF.out, fun a n c e hn => by cases e; exact Nat.le_refl _, HB.out⟩
end Go.Proofs.YtpmmfmlldkdfhaaDoor
