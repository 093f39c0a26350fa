/-
Layer 15: the contracts of disk; a disk that a law has made; the document's Full.
The laws of layer 15: awake, DiskArms.
-/
import Derived.Test.YtkbpcmjdfaokhaaDoorZ00
import Derived.Test.YtkbpcmjdfaokhaaDoorZ04
import Derived.Lib.SlBytesConst

set_option linter.unusedVariables false
set_option linter.unusedSimpArgs false
namespace Go.Proofs.YtkbpcmjdfaokhaaDoor
open Go.RowKit

/-- A list of fates in memory. -/
def Fts (w : World) (v : Value) (fs : List (Int × Int)) : Prop :=
  ∃ (ad : Option Addr) (cap b o : Nat), v = .slice ad fs.length cap ∧ fs.length ≤ cap ∧ cap ≤ maxLen ∧ (0 < fs.length → ad = some ⟨b, o, none⟩) ∧
    ∀ j, j < fs.length → w.cell? ⟨b, o + j * 2, none⟩ = some (.int .i64 (fs.getD j (0, 0)).1) ∧ w.cell? ⟨b, o + j * 2 + 1, none⟩ = some (.int .i64 (fs.getD j (0, 0)).2)
theorem Fts.later {w w' : World} {v : Value} {fs : List (Int × Int)} (h : Fts w v fs) (k : Below w.heap.size w w') : Fts w' v fs := by
  obtain ⟨ad, cap, b, o, e, h1, h2, h3, h4⟩ := h
  exact ⟨ad, cap, b, o, e, h1, h2, h3, fun j hj => ⟨cell_later k (h4 j hj).1, cell_later k (h4 j hj).2⟩⟩
theorem fts_nil (w : World) : Fts w (.slice none 0 0) [] := ⟨none, 0, 0, 0, rfl, Nat.le_refl _, Nat.zero_le _, fun h => by simp at h, fun j hj => by simp at hj⟩
/-- What 64 bits hold. -/
def Bd64 (n : Int) : Prop := -9223372036854775808 ≤ n ∧ n ≤ 9223372036854775807
/-- Bytes that may be written. -/
def Uf (w : World) (v : Value) : Prop := ∀ (b o n cap : Nat), v = .slice (some ⟨b, o, none⟩) n cap → ∀ k, k < n → w.frozen? ⟨b, o + k, none⟩ = false
/-- What a call with a disk leaves. -/
def Ad (T : World → Value → (Nat → Prop) → Dsk → Prop) (p : Value) (F : Nat → Prop) (s : Dsk) (w w' : World) : Prop := ∃ F' : Nat → Prop, T w' p F' s ∧ Gr F F' w ∧ Kp F w w'
/-- The contracts of disk: T a disk, F the blocks that are its own. -/
structure Disk1 where
  Dt : World → Value → (Nat → Prop) → Dsk → Prop
  dtK : ∀ {w w' : World} {p : Value} {F : Nat → Prop} {s : Dsk}, Dt w p F s → (∀ k, F k → w'.heap[k]? = w.heap[k]?) → w.heap.size ≤ w'.heap.size → Dt w' p F s
  dtB : ∀ {w : World} {p : Value} {F : Nat → Prop} {s : Dsk}, Dt w p F s → ∀ k, F k → k < w.heap.size
  dtO : ∀ {w : World} {p : Value} {F : Nat → Prop} {s : Dsk}, Dt w p F s → OkD s
  new : ∀ (w : World) (n : Nat), 1 ≤ n → n ≤ 16384 →
    Calls Tryd.prog 9 #[.int .i64 (n : Int)] w fun e w' => ∃ p F, e = .returned (.tuple #[p, .int .i64 0]) ∧ Dt w' p F (dNew n) ∧ (∀ k, F k → w.heap.size ≤ k) ∧ Below w.heap.size w w'
  newN : ∀ (w : World) (n : Int), n < 1 ∨ 16384 < n →
    Calls Tryd.prog 9 #[.int .i64 n] w fun e w' => e = .returned (.tuple #[.pointer none, .int .i64 2]) ∧ Below w.heap.size w w'
  write : ∀ (w : World) (p : Value) (F : Nat → Prop) (s : Dsk) (i : Int) (v : Value) (b : List Nat), Dt w p F s → Bs w v b → Nf F v → (∀ c ∈ b, c < 256) → b.length ≤ 2000000 → s.un.length ≤ 1000 →
    Calls Tryd.prog 29 #[p, .int .i64 i, v] w fun e w' => e = .returned (.int .i64 ((wrE s i b : Nat) : Int)) ∧ Ad Dt p F (wrS s i b) w w'
  read : ∀ (w : World) (p : Value) (F : Nat → Prop) (s : Dsk) (i : Int), Dt w p F s →
    Calls Tryd.prog 59 #[p, .int .i64 i] w fun e w' => ∃ v, e = .returned (.tuple #[v, .int .i64 ((dAsk s i : Nat) : Int)]) ∧ Bs w' v (rdB s i) ∧ (Ow w.heap.size v ∧ Uf w' v) ∧ Below w.heap.size w w'
  safeY : ∀ (w : World) (p : Value) (F : Nat → Prop) (s : Dsk) (i : Nat), Dt w p F s → i < s.bl.length →
    Calls Tryd.prog 33 #[p, .int .i64 (i : Int)] w fun e w' => ∃ v, e = .returned (.tuple #[v, .int .i64 0]) ∧ Bs w' v (s.bl.getD i []) ∧ Ow w.heap.size v ∧ Below w.heap.size w w'
  safeN : ∀ (w : World) (p : Value) (F : Nat → Prop) (s : Dsk) (i : Int), Dt w p F s → i < 0 ∨ (s.bl.length : Int) ≤ i →
    Calls Tryd.prog 33 #[p, .int .i64 i] w fun e w' => ∃ v, e = .returned (.tuple #[v, .int .i64 151]) ∧ Bs w' v [] ∧ Below w.heap.size w w'
  flush : ∀ (w : World) (p : Value) (F : Nat → Prop) (s : Dsk), Dt w p F s → s.un.length ≤ 1000 →
    Calls Tryd.prog 31 #[p] w fun e w' => e = .returned (.int .i64 ((flE s : Nat) : Int)) ∧ Ad Dt p F (flS s) w w'
  arm : ∀ (w : World) (p : Value) (F : Nat → Prop) (s : Dsk) (n : Int), Dt w p F s → Bd64 n →
    Calls Tryd.prog 19 #[p, .int .i64 n] w fun e w' => e = .returned (.tuple #[]) ∧ Ad Dt p F (arS s n) w w'
  blocks : ∀ (w : World) (p : Value) (F : Nat → Prop) (s : Dsk), Dt w p F s →
    Calls Tryd.prog 22 #[p] w fun e w' => e = .returned (.int .i64 ((s.bl.length : Nat) : Int)) ∧ Below w.heap.size w w'
  down : ∀ (w : World) (p : Value) (F : Nat → Prop) (s : Dsk), Dt w p F s →
    Calls Tryd.prog 35 #[p] w fun e w' => e = .returned (.bool s.dn) ∧ Below w.heap.size w w'
  crash : ∀ (w : World) (p : Value) (F : Nat → Prop) (s : Dsk) (v : Value) (fs : List (Int × Int)), Dt w p F s → Fts w v fs → Nf F v → fs.length ≤ 1000 → s.un.length ≤ 1000 →
    Calls Tryd.prog 20 #[p, v] w fun e w' => e = .returned (.int .i64 0) ∧ Ad Dt p F (crS s fs) w w'
/-- A disk that the law has made, w0 the world at its beginning. -/
def Dw (V : Disk1) (w0 w : World) (p : Value) (s : Dsk) : Prop := ∃ F : Nat → Prop, V.Dt w p F s ∧ (∀ k, F k → w0.heap.size ≤ k) ∧ Below w0.heap.size w0 w
/-- And v isn't its own. -/
def DwN (V : Disk1) (w0 w : World) (p : Value) (s : Dsk) (v : Value) : Prop := ∃ F : Nat → Prop, V.Dt w p F s ∧ (∀ k, F k → w0.heap.size ≤ k) ∧ Below w0.heap.size w0 w ∧ Nf F v
theorem Dw.bel {V : Disk1} {w0 w : World} {p : Value} {s : Dsk} (h : Dw V w0 w p s) : Below w0.heap.size w0 w := h.choose_spec.2.2
theorem Dw.ok {V : Disk1} {w0 w : World} {p : Value} {s : Dsk} (h : Dw V w0 w p s) : OkD s := V.dtO h.choose_spec.1
theorem Dw.later {V : Disk1} {w0 w w' : World} {p : Value} {s : Dsk} (h : Dw V w0 w p s) (k : Below w.heap.size w w') : Dw V w0 w' p s := by
  obtain ⟨F, h1, h2, h3⟩ := h
  exact ⟨F, V.dtK h1 (fun i hi => k.block i (V.dtB h1 i hi)) k.size, h2, bchain h3 k⟩
/-- A list that is older than the law. -/
theorem Dw.old {V : Disk1} {w0 w : World} {p : Value} {s : Dsk} (h : Dw V w0 w p s) {v : Value} (hv : Lo w0.heap.size v) : DwN V w0 w p s v := by
  obtain ⟨F, h1, h2, h3⟩ := h
  exact ⟨F, h1, h2, h3, fun a n c e hn q => by have := hv a n c e hn; have := h2 _ q; omega⟩
/-- A list that is newer than the disk. -/
theorem Dw.young {V : Disk1} {w0 w w' : World} {p : Value} {s : Dsk} (h : Dw V w0 w p s) (k : Below w.heap.size w w') {v : Value} (hv : Ow w.heap.size v) : DwN V w0 w' p s v := by
  obtain ⟨F, h1, h2, h3⟩ := h
  exact ⟨F, V.dtK h1 (fun i hi => k.block i (V.dtB h1 i hi)) k.size, h2, bchain h3 k, fun a n c e hn q => by have := hv a n c e hn; have := V.dtB h1 _ q; omega⟩
theorem Dw.next {V : Disk1} {w0 w w' : World} {p : Value} {s' : Dsk} {F : Nat → Prop} (h2 : ∀ k, F k → w0.heap.size ≤ k) (h3 : Below w0.heap.size w0 w) (h : Ad V.Dt p F s' w w') : Dw V w0 w' p s' := by
  obtain ⟨F', q1, q2, q3⟩ := h
  have hB := h3.size
  exact ⟨F', q1, fun k hk => by rcases q2 k hk with q | q; exact h2 k q; omega, q3.next h3 h2 hB⟩
theorem dwNew (V : Disk1) (w0 w : World) (n : Nat) (h1 : 1 ≤ n) (h2 : n ≤ 16384) (hb : Below w0.heap.size w0 w) : Calls Tryd.prog 9 #[.int .i64 (n : Int)] w fun e w' => ∃ p, e = .returned (.tuple #[p, .int .i64 0]) ∧ Dw V w0 w' p (dNew n) :=
  (V.new w n h1 h2).mono fun e w' ⟨p, F, q1, q2, q3, q4⟩ => ⟨p, q1, F, q2, fun k hk => Nat.le_trans hb.size (q3 k hk), bchain hb q4⟩
theorem dwWrite {V : Disk1} {w0 w : World} {p : Value} {s : Dsk} {v : Value} {b : List Nat} (h : DwN V w0 w p s v) (i : Int) (hv : Bs w v b) (hb : ∀ c ∈ b, c < 256) (hl : b.length ≤ 2000000) (hu : s.un.length ≤ 1000) : Calls Tryd.prog 29 #[p, .int .i64 i, v] w fun e w' => e = .returned (.int .i64 ((wrE s i b : Nat) : Int)) ∧ Dw V w0 w' p (wrS s i b) := by
  obtain ⟨F, h1, h2, h3, h4⟩ := h
  exact (V.write w p F s i v b h1 hv h4 hb hl hu).mono fun e w' ⟨q1, q2⟩ => ⟨q1, Dw.next h2 h3 q2⟩
theorem dwRead {V : Disk1} {w0 w : World} {p : Value} {s : Dsk} (h : Dw V w0 w p s) (i : Int) : Calls Tryd.prog 59 #[p, .int .i64 i] w fun e w' => ∃ v, e = .returned (.tuple #[v, .int .i64 ((dAsk s i : Nat) : Int)]) ∧ Bs w' v (rdB s i) ∧ Ow w.heap.size v ∧ Below w.heap.size w w' := by
  obtain ⟨F, h1, h2, h3⟩ := h
  exact (V.read w p F s i h1).mono fun e w' ⟨v, q1, q2, q3, q4⟩ => ⟨v, q1, q2, q3.1, q4⟩
theorem dwSafe {V : Disk1} {w0 w : World} {p : Value} {s : Dsk} (h : Dw V w0 w p s) (i : Nat) (hi : i < s.bl.length) : Calls Tryd.prog 33 #[p, .int .i64 (i : Int)] w fun e w' => ∃ v, e = .returned (.tuple #[v, .int .i64 0]) ∧ Bs w' v (s.bl.getD i []) ∧ Ow w.heap.size v ∧ Below w.heap.size w w' := by
  obtain ⟨F, h1, h2, h3⟩ := h
  exact V.safeY w p F s i h1 hi
theorem dwFlush {V : Disk1} {w0 w : World} {p : Value} {s : Dsk} (h : Dw V w0 w p s) (hu : s.un.length ≤ 1000) : Calls Tryd.prog 31 #[p] w fun e w' => e = .returned (.int .i64 ((flE s : Nat) : Int)) ∧ Dw V w0 w' p (flS s) := by
  obtain ⟨F, h1, h2, h3⟩ := h
  exact (V.flush w p F s h1 hu).mono fun e w' ⟨q1, q2⟩ => ⟨q1, Dw.next h2 h3 q2⟩
theorem dwArm {V : Disk1} {w0 w : World} {p : Value} {s : Dsk} (h : Dw V w0 w p s) (n : Int) (hn : Bd64 n) : Calls Tryd.prog 19 #[p, .int .i64 n] w fun e w' => e = .returned (.tuple #[]) ∧ Dw V w0 w' p (arS s n) := by
  obtain ⟨F, h1, h2, h3⟩ := h
  exact (V.arm w p F s n h1 hn).mono fun e w' ⟨q1, q2⟩ => ⟨q1, Dw.next h2 h3 q2⟩
theorem dwDown {V : Disk1} {w0 w : World} {p : Value} {s : Dsk} (h : Dw V w0 w p s) : Calls Tryd.prog 35 #[p] w fun e w' => e = .returned (.bool s.dn) ∧ Dw V w0 w' p s := by
  have h' := h
  obtain ⟨F, h1, h2, h3⟩ := h
  exact (V.down w p F s h1).mono fun e w' ⟨q1, q2⟩ => ⟨q1, h'.later q2⟩
theorem dwCrash {V : Disk1} {w0 w : World} {p : Value} {s : Dsk} {v : Value} {fs : List (Int × Int)} (h : DwN V w0 w p s v) (hv : Fts w v fs) (hl : fs.length ≤ 1000) (hu : s.un.length ≤ 1000) : Calls Tryd.prog 20 #[p, v] w fun e w' => e = .returned (.int .i64 0) ∧ Dw V w0 w' p (crS s fs) := by
  obtain ⟨F, h1, h2, h3, h4⟩ := h
  exact (V.crash w p F s v fs h1 hv h4 hl hu).mono fun e w' ⟨q1, q2⟩ => ⟨q1, Dw.next h2 h3 q2⟩
/-! The document's Full. -/
theorem make_by15 (n : Nat) (hn : n ≤ 2000000) (w : World) : (Instr.makeSlice 40 (.int .i64 (n : Int)) (.int .i64 (n : Int))).run Tryd.prog w = .ok (.slice (some ⟨w.heap.size, 0, none⟩) n n) (w.alloc (.cells (madeCells #[.int .u8 0] n) 5)) := by
  obtain ⟨i0, hi, hz0, hz1, hz2⟩ := info_parts dinfo_byte
  have h := run_make (P := Tryd.prog) w 40 5 i0 (.int .u8 0) Tryd.underlying40 hi hz0 .i64 .i64 (n : Int) (n : Int) (by omega) (by omega) (by rw [hz2]; omega) (by omega)
  rw [hz1, Nat.mul_one] at h
  exact h
theorem full_get (b : List Nat) (k : Nat) : (full b).getD k 0 = b.getD k 0 := by
  unfold full
  simp only [List.getD, List.getElem?_append]
  split
  · rfl
  · rename_i q
    rw [List.getElem?_eq_none (l := b) (by omega), List.getElem?_replicate]
    split <;> rfl
theorem full_len {b : List Nat} (h : b.length ≤ 128) : (full b).length = 128 := by
  unfold full
  rw [List.length_append, List.length_replicate]
  omega
set_option maxRecDepth 100000 in
set_option maxHeartbeats 4000000 in
theorem refFull (v : Value) (l : List Nat) (hl : l.length ≤ 128) (w : World) (h : Bs w v l) :
    Calls Tryd.prog 56 #[v] w fun e w' => ∃ v', e = .returned v' ∧ Bs w' v' (full l) ∧ Ow w.heap.size v' ∧ Below w.heap.size w w' := by
  have HL : Hid (Bs w v l) := h
  obtain ⟨ad, cap, rfl, k1, k2⟩ := h.len
  obtain ⟨n, hn⟩ : ∃ n, l.length = n := ⟨_, rfl⟩
  have HN : Hid (l.length = n) := hn
  rw [hn] at k1 hl HL ⊢
  clear h hn
  have hmk : ∀ W : World, (Instr.makeSlice 40 (.int .i64 128) (.int .i64 128)).run Tryd.prog W = .ok (.slice (some ⟨W.heap.size, 0, none⟩) 128 128) (W.alloc (.cells (madeCells #[.int .u8 0] 128) 5)) := fun W => make_by15 128 (by omega) W
  obtain ⟨wA, hwA⟩ : ∃ wA, wA = w.alloc (.cells (madeCells #[.int .u8 0] 128) 5) := ⟨_, rfl⟩
  have HA : Hid (Rw w.heap.size 128 (by8 (fun _ => 0)) wA ∧ Below w.heap.size w wA ∧ wA.heap.size = w.heap.size + 1) := by
    rw [hwA]
    exact ⟨Rw.made w (.int .u8 0) 128 5, bel1 _ _, by simp⟩
  go_enter Tryd.func56, Tryd.ntmps56
  go_upto_region 3 with fail
  rw [← hwA]
  clear hwA hmk
  go_loopw [4] (fun s4 wr => ∃ j : Nat, j ≤ n ∧ s4 = .int .i64 (j : Int) ∧ Hid (Rw w.heap.size 128 (by8 (fun k => if k < j then l.getD k 0 else 0)) wr) ∧ Hid (Below w.heap.size w wr)) (fun s4 _ => n - (intOf s4).toNat)
  case atStart => exact ⟨0, by omega, rfl, HA.out.1.congr (fun k _ => by simp [by8]), HA.out.2.1⟩
  case round =>
    obtain ⟨j, hj, rfl, HR, HB⟩ := hrel
    by_cases hlt : j < n
    · have hjI : (j : Int) < (n : Int) := by omega
      have hj8 : (j : Int) < 128 := by omega
      have hN := HN.out
      obtain ⟨b, o, rfl, ca⟩ := HL.out.cel j (by omega)
      have hbw : b < w.heap.size := World.block_lt_of_cell? _ _ ca
      have cA : wr.cell? ⟨b, o + j, none⟩ = some (.int .u8 ((l.getD j 0 : Nat) : Int)) := (HB.out.cell hbw).trans ca
      have cB := HR.out.c j (by omega)
      have fB := HR.out.f j (by omega)
      have HR2 : Hid (Rw w.heap.size 128 (by8 (fun k => if k < j + 1 then l.getD k 0 else 0)) (wr.setCell ⟨w.heap.size, j, none⟩ (.int .u8 ((l.getD j 0 : Nat) : Int)))) := by
        refine (HR.out.set j _).congr (fun k hk => ?_)
        unfold by8
        by_cases e : k = j
        · subst e; simp
        · by_cases e2 : k < j
          · simp [e, e2, show k < j + 1 by omega]
          · simp [e, e2, show ¬ k < j + 1 by omega]
      have HB2 : Hid (Below w.heap.size w (wr.setCell ⟨w.heap.size, j, none⟩ (.int .u8 ((l.getD j 0 : Nat) : Int)))) := HB.out.setCell (Nat.le_refl _) _
      clear ca hbw hN HR HB
      generalize l.getD j 0 = x at *
      go_wp2
      go_roundw
      case rel => exact ⟨j + 1, by omega, by go_num, HR2, HB2⟩
      case measure => simp [intOf]; omega
    · obtain rfl : j = n := by omega
      have hjI : ¬ (j : Int) < (j : Int) := by omega
      have HF : Hid (Bs wr (.slice (some ⟨w.heap.size, 0, none⟩) 128 128) (full l)) := by
        have e := full_len (b := l) (by have := HN.out; omega)
        refine ⟨_, 128, w.heap.size, 0, by rw [e], by omega, ⟨by unfold maxLen; omega, fun e => by cases e⟩, fun _ => rfl, fun k hk => ?_⟩
        rw [e] at hk
        rw [Nat.zero_add, HR.out.c k hk]
        unfold by8 b8f
        rw [full_get]
        by_cases q : k < j
        · simp [q]
        · have : l.getD k 0 = 0 := by simp [List.getD, List.getElem?_eq_none (l := l) (i := k) (by have := HN.out; omega)]
          rw [this]
          simp [q]
      go_wp2
      go_ret
      exact ⟨_, rfl, HF.out, fun a n c e hn => by cases e; exact Nat.le_refl _, HB.out⟩
end Go.Proofs.YtkbpcmjdfaokhaaDoor
set_option linter.unusedVariables false
set_option linter.unusedSimpArgs false
namespace Go.Proofs.YtkbpcmjdfaokhaaDoor
open Go.RowKit

structure Aw15 (s1 s2 s3 s4 : Dsk) : Prop where
  e1 : wrS (dNew 2) 0 [97, 98] = s1
  f1 : wrE (dNew 2) 0 [97, 98] = 0
  e2 : flS s1 = s2
  f2 : flE s1 = 0
  e3 : wrS s2 0 [120, 121, 122] = s3
  f3 : wrE s2 0 [120, 121, 122] = 0
  e4 : crS s3 [(2, 1)] = s4
  f4 : dAsk s4 0 = 0
  g4 : rdB s4 0 = full [120, 98]
  l1 : s1.un.length = 1
  l2 : s2.un.length = 0
  l3 : s3.un.length = 1
theorem aw15 : ∃ s1 s2 s3 s4, Aw15 s1 s2 s3 s4 := ⟨_, _, _, _, rfl, by decide +kernel, rfl, by decide +kernel, rfl, by decide +kernel, rfl, by decide +kernel, by decide +kernel, by decide +kernel, by decide +kernel, by decide +kernel⟩
theorem bs_two15 (w : World) (x y : Nat) (t : TypeId) (fr : Nat × Nat) : Bs (w.alloc (.cells #[.int .u8 (x : Int), .int .u8 (y : Int)] t fr)) (.slice (some ⟨w.heap.size, 0, none⟩) 2 2) [x, y] :=
  ⟨_, 2, w.heap.size, 0, rfl, Nat.le_refl _, ⟨by unfold maxLen; omega, fun e => by cases e⟩, fun _ => rfl, fun k hk => by
    have hk0 : k < 2 := hk
    have : k = 0 ∨ k = 1 := by omega
    rw [Nat.zero_add, World.cell?_alloc_mark]
    rcases this with rfl | rfl <;> rfl⟩
theorem bs_three15 (w : World) (x y z : Nat) (t : TypeId) (fr : Nat × Nat) : Bs (w.alloc (.cells #[.int .u8 (x : Int), .int .u8 (y : Int), .int .u8 (z : Int)] t fr)) (.slice (some ⟨w.heap.size, 0, none⟩) 3 3) [x, y, z] :=
  ⟨_, 3, w.heap.size, 0, rfl, Nat.le_refl _, ⟨by unfold maxLen; omega, fun e => by cases e⟩, fun _ => rfl, fun k hk => by
    have hk0 : k < 3 := hk
    have : k = 0 ∨ k = 1 ∨ k = 2 := by omega
    rw [Nat.zero_add, World.cell?_alloc_mark]
    rcases this with rfl | rfl | rfl <;> rfl⟩
theorem bs_one15 (w : World) (x : Nat) (t : TypeId) : Bs (w.alloc (.cells #[.int .u8 (x : Int)] t)) (.slice (some ⟨w.heap.size, 0, none⟩) 1 1) [x] :=
  ⟨_, 1, w.heap.size, 0, rfl, Nat.le_refl _, ⟨by unfold maxLen; omega, fun e => by cases e⟩, fun _ => rfl, fun k hk => by
    have hk0 : k < 1 := hk
    obtain rfl : k = 0 := by omega
    simp [go_sem, b8f]⟩
theorem fts_one15 (w : World) (x y : Int) (t : TypeId) : Fts (w.alloc (.cells #[.int .i64 x, .int .i64 y] t)) (.slice (some ⟨w.heap.size, 0, none⟩) 1 1) [(x, y)] :=
  ⟨_, 1, w.heap.size, 0, rfl, Nat.le_refl _, by unfold maxLen; omega, fun _ => rfl, fun k hk => by
    have hk0 : k < 1 := hk
    obtain rfl : k = 0 := by omega
    simp [go_sem]⟩
theorem ow_at {B g n c : Nat} (h : B ≤ g) : Ow B (.slice (some ⟨g, 0, none⟩) n c) := fun a n' c' e hn => by cases e; exact h
theorem wrS_un (s : Dsk) (i : Int) (b : List Nat) : (wrS s i b).un.length ≤ s.un.length + 1 := by
  unfold wrS
  split
  · omega
  · rw [(dGone_bl _).2]
    simp
theorem flS_un (s : Dsk) : (flS s).un.length ≤ s.un.length := by
  unfold flS
  split
  · omega
  · split
    · exact Nat.zero_le _
    · rw [(dGone_bl _).2]; omega
theorem arm_new (n : Nat) : Arm n 0 (arS (dNew 4) (n : Int)) := ⟨rfl, by simp [arS], by simp [arS, dNew], fun _ => by simp [arS]⟩
theorem flE_cr (s : Dsk) (fs : List (Int × Int)) : flE (crS s fs) = 0 := rfl
end Go.Proofs.YtkbpcmjdfaokhaaDoor
