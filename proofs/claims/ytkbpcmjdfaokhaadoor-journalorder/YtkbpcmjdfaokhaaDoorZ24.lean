/-
  Layer 17: a step of a play, on both sides.
-/
import Derived.Test.YtkbpcmjdfaokhaaDoorZ22
import Derived.Test.YtkbpcmjdfaokhaaDoorZ23

set_option linter.unusedVariables false
set_option linter.unusedSimpArgs false
namespace Go.Proofs.YtkbpcmjdfaokhaaDoor
open Go.RowKit
theorem jdArm {V : Disk1} {J : Jour1 V} {T : World → (Nat → Prop) → Prop} (oT : Owns T) {w0 w : World} {N : Nat → Prop} {d q : Value} {base size : Nat} {s : Dsk} {j : Jst} (h : P2 (JD V J d q base size s j) T w0 w N) (n : Int) (hn : Bd64 n) :
    Calls Tryd.prog 19 #[d, .int .i64 n] w fun e w' => e = .returned (.tuple #[]) ∧ P2 (JD V J d q base size (arS s n) j) T w0 w' N ∧ Kn N w w' := jdDisk (K := fun e => e = .returned (.tuple #[])) oT h (fun F h1 h2 h3 => V.arm w d F s n h1 hn)
theorem jrArm {S : World → (Nat → Prop) → Prop} (oS : Owns S) {w0 w : World} {N : Nat → Prop} {r0 : Value} {c base size : Nat} {s : Dsk} {j : Jst} (h : P2 S (JR r0 c base size s j) w0 w N) (n : Int) (hn : Bd64 n) :
    Calls Tryd.prog 26 #[r0, .int .i64 n] w fun e w' => e = .returned (.tuple #[]) ∧ P2 S (JR r0 c base size (arS s n) j) w0 w' N ∧ Kn N w w' := jrDisk (K := fun e => e = .returned (.tuple #[])) oS h (fun F h1 h2 h3 => refArm h1 n hn)
theorem jdCrash {V : Disk1} {J : Jour1 V} {T : World → (Nat → Prop) → Prop} (oT : Owns T) {w0 w : World} {N : Nat → Prop} {d q : Value} {base size : Nat} {s : Dsk} {j : Jst} (h : P2 (JD V J d q base size s j) T w0 w N) (hu : s.un.length ≤ 60) {v : Value} {fs : List (Int × Int)} (hv : Fts w v fs) (ho : Ou w0.heap.size N v) (hl : fs.length ≤ 1000) :
    Calls Tryd.prog 20 #[d, v] w fun e w' => e = .returned (.int .i64 0) ∧ P2 (JD V J d q base size (crS s fs) j) T w0 w' N ∧ Kn N w w' := jdDisk (K := fun e => e = .returned (.int .i64 0)) oT h (fun F h1 h2 h3 => V.crash w d F s v fs h1 hv (nf_ou ho h2 h3) hl (by omega))
theorem jrCrash {S : World → (Nat → Prop) → Prop} (oS : Owns S) {w0 w : World} {N : Nat → Prop} {r0 : Value} {c base size : Nat} {s : Dsk} {j : Jst} (h : P2 S (JR r0 c base size s j) w0 w N) (hu : s.un.length ≤ 60) {v : Value} {fs : List (Int × Int)} (hv : Fts w v fs) (ho : Ou w0.heap.size N v) (hl : fs.length ≤ 1000) :
    Calls Tryd.prog 27 #[r0, v] w fun e w' => e = .returned (.tuple #[]) ∧ P2 S (JR r0 c base size (crS s fs) j) w0 w' N ∧ Kn N w w' := jrDisk (K := fun e => e = .returned (.tuple #[])) oS h (fun F h1 h2 h3 => refCrash h1 v fs hv (nf_ou ho h2 h3) (by omega))
theorem jdWrite {V : Disk1} {J : Jour1 V} {T : World → (Nat → Prop) → Prop} (oT : Owns T) {w0 w : World} {N : Nat → Prop} {d q : Value} {base size : Nat} {s : Dsk} {j : Jst} (h : P2 (JD V J d q base size s j) T w0 w N) (hu : s.un.length ≤ 60) (i : Int) {v : Value} {b : List Nat} (hv : Bs w v b) (ho : Ou w0.heap.size N v) (hx : ∀ x ∈ b, x < 256) (hl : b.length ≤ 2000000) :
    Calls Tryd.prog 29 #[d, .int .i64 i, v] w fun e w' => e = .returned (.int .i64 ((wrE s i b : Nat) : Int)) ∧ P2 (JD V J d q base size (wrS s i b) j) T w0 w' N ∧ Kn N w w' := jdDisk (K := fun e => e = .returned (.int .i64 ((wrE s i b : Nat) : Int))) oT h (fun F h1 h2 h3 => V.write w d F s i v b h1 hv (nf_ou ho h2 h3) hx hl (by omega))
theorem jrWrite {S : World → (Nat → Prop) → Prop} (oS : Owns S) {w0 w : World} {N : Nat → Prop} {r0 : Value} {c base size : Nat} {s : Dsk} {j : Jst} (h : P2 S (JR r0 c base size s j) w0 w N) (hu : s.un.length ≤ 60) (i : Int) {v : Value} {b : List Nat} (hv : Bs w v b) (ho : Ou w0.heap.size N v) (hx : ∀ x ∈ b, x < 256) (hl : b.length ≤ 2000000) :
    Calls Tryd.prog 30 #[r0, .int .i64 i, v] w fun e w' => e = .returned (.int .i64 ((wrE s i b : Nat) : Int)) ∧ P2 S (JR r0 c base size (wrS s i b) j) w0 w' N ∧ Kn N w w' := jrDisk (K := fun e => e = .returned (.int .i64 ((wrE s i b : Nat) : Int))) oS h (fun F h1 h2 h3 => refWrite h1 i v b hv hx (by omega))
theorem jdFlush {V : Disk1} {J : Jour1 V} {T : World → (Nat → Prop) → Prop} (oT : Owns T) {w0 w : World} {N : Nat → Prop} {d q : Value} {base size : Nat} {s : Dsk} {j : Jst} (h : P2 (JD V J d q base size s j) T w0 w N) (hu : s.un.length ≤ 100) :
    Calls Tryd.prog 31 #[d] w fun e w' => e = .returned (.int .i64 ((flE s : Nat) : Int)) ∧ P2 (JD V J d q base size (flS s) j) T w0 w' N ∧ Kn N w w' := jdDisk (K := fun e => e = .returned (.int .i64 ((flE s : Nat) : Int))) oT h (fun F h1 h2 h3 => V.flush w d F s h1 (by omega))
theorem jrFlush {S : World → (Nat → Prop) → Prop} (oS : Owns S) {w0 w : World} {N : Nat → Prop} {r0 : Value} {c base size : Nat} {s : Dsk} {j : Jst} (h : P2 S (JR r0 c base size s j) w0 w N) (hu : s.un.length ≤ 100) :
    Calls Tryd.prog 32 #[r0] w fun e w' => e = .returned (.int .i64 ((flE s : Nat) : Int)) ∧ P2 S (JR r0 c base size (flS s) j) w0 w' N ∧ Kn N w w' := jrDisk (K := fun e => e = .returned (.int .i64 ((flE s : Nat) : Int))) oS h (fun F h1 h2 h3 => refFlush h1 (by omega))
theorem P2.rj {S : World → (Nat → Prop) → Prop} {w0 w : World} {N : Nat → Prop} {r0 : Value} {c base size : Nat} {s : Dsk} {j : Jst} (h : P2 S (JR r0 c base size s j) w0 w N) : RJ w c r0 base size j := by
  obtain ⟨A, B, -, ⟨H, g1, g2, g3, rfl⟩, -⟩ := h
  exact g2
theorem Txs.later {w w' : World} {v : Value} {ls : List (List Nat)} (h : Txs w v ls) (k : Below w.heap.size w w') : Txs w' v ls := by
  obtain ⟨ad, cap, b, o, h1, h2, h3, h4, h5⟩ := h
  exact ⟨ad, cap, b, o, h1, h2, h3, h4, fun j hj => by
    obtain ⟨x, e1, e2⟩ := h5 j hj
    exact ⟨x, cell_later k e1, e2.later k⟩⟩
/-- The box of a step. -/
structure Bx (bo : Nat) (k i : Int) (vb vf : Value) (w : World) : Prop where
  y0 : w.cell? ⟨bo, 0, none⟩ = some (.int .i64 k)
  y1 : w.cell? ⟨bo, 1, none⟩ = some (.int .i64 i)
  y2 : w.cell? ⟨bo, 2, none⟩ = some vb
  y3 : w.cell? ⟨bo, 3, none⟩ = some vf
theorem kn_cell {N : Nat → Prop} {w w' : World} (h : Kn N w w') {a : Addr} {v : Value} (hn : N a.block) (hc : w.cell? a = some v) : w'.cell? a = some v := (World.cell?_of_block (w := w) (h _ hn)).trans hc
theorem Bx.kn {N : Nat → Prop} {bo : Nat} {k i : Int} {vb vf : Value} {w w' : World} (h : Bx bo k i vb vf w) (K : Kn N w w') (ho : N bo) : Bx bo k i vb vf w' :=
  ⟨kn_cell K (a := ⟨bo, 0, none⟩) ho h.y0, kn_cell K (a := ⟨bo, 1, none⟩) ho h.y1, kn_cell K (a := ⟨bo, 2, none⟩) ho h.y2, kn_cell K (a := ⟨bo, 3, none⟩) ho h.y3⟩
theorem Bx.later {bo : Nat} {k i : Int} {vb vf : Value} {w w' : World} (h : Bx bo k i vb vf w) (K : Below w.heap.size w w') : Bx bo k i vb vf w' :=
  ⟨cell_later K h.y0, cell_later K h.y1, cell_later K h.y2, cell_later K h.y3⟩
/-- Between two steps. -/
def Pst17 (V : Disk1) (J : Jour1 V) (d q r0 : Value) (c base size m k : Nat) (w0 w : World) : Prop :=
  ∃ (s : Dsk) (j : Jst), P2 (JD V J d q base size s j) (JR r0 c base size s j) w0 w (fun _ => False) ∧ Jq m s ∧ JB size k j
set_option maxRecDepth 100000 in
set_option maxHeartbeats 16000000 in
theorem step17 {V : Disk1} {J : Jour1 V} {w0 w : World} {d q r0 : Value} {c base size m k : Nat} (h : Pst17 V J d q r0 c base size m k w0 w) (HT : Hid (JT w0)) (hr : base + size ≤ m) (hm : m ≤ 40) (hk : k ≤ 100) (kk ii : Int) (hi : Bd64 ii) (vb vf : Value) (b : List Nat) (fs : List (Int × Int)) (hvb : Bs w0 vb b) (hx : ∀ x ∈ b, x < 256) (hbl : b.length ≤ 1000) (hvf : Fts w0 vf fs) (hfl : fs.length ≤ 40) :
    Calls Tryd.prog 13 #[d, q, .pointer (some ⟨c, 0, none⟩), .agg #[.int .i64 kk, .int .i64 ii, vb, vf]] w fun e w' => e = .returned (.bool true) ∧ Pst17 V J d q r0 c base size m (k + 1) w0 w' := by
  obtain ⟨s, j, hP, hq, hb⟩ := h
  have HP0 : Hid (P2 (JD V J d q base size s j) (JR r0 c base size s j) w0 w (fun _ => False)) := hP
  have HQ : Hid (Jq m s ∧ JB size k j ∧ base + size ≤ m ∧ m ≤ 40 ∧ k ≤ 100 ∧ Bd64 ii) := ⟨hq, hb, hr, hm, hk, hi⟩
  obtain ⟨a1, p1, rfl, -, -⟩ := hvb.len
  obtain ⟨a2, p2, rfl, -, -⟩ := hvf.len
  have HV : Hid (Bs w0 (.slice a1 b.length p1) b ∧ Ou w0.heap.size (fun _ => False) (.slice a1 b.length p1) ∧ (∀ x ∈ b, x < 256) ∧ b.length ≤ 1000 ∧ Fts w0 (.slice a2 fs.length p2) fs ∧ Ou w0.heap.size (fun _ => False) (.slice a2 fs.length p2) ∧ fs.length ≤ 40) := ⟨hvb, (Ls.lo hvb).ou, hx, hbl, hvf, hvf.lo.ou, hfl⟩
  obtain ⟨n1, hn1⟩ : ∃ n1, b.length = n1 := ⟨_, rfl⟩
  obtain ⟨n2, hn2⟩ : ∃ n2, fs.length = n2 := ⟨_, rfl⟩
  have HNN : Hid (b.length = n1 ∧ fs.length = n2) := ⟨hn1, hn2⟩
  rw [hn1, hn2] at HV
  rw [hn1, hn2]
  clear hP hq hb hvb hx hbl hvf hfl hn1 hn2 hr hm hk hi
  obtain ⟨wA, hwA⟩ : ∃ wA, wA = w.alloc (.cells #[.int .i64 kk, .int .i64 ii, .slice a1 n1 p1, .slice a2 n2 p2] 43) := ⟨_, rfl⟩
  obtain ⟨N1, hN1⟩ : ∃ N1 : Nat → Prop, N1 = (fun i => False ∨ (w.heap.size ≤ i ∧ i < wA.heap.size)) := ⟨_, rfl⟩
  have HX : Hid (P2 (JD V J d q base size s j) (JR r0 c base size s j) w0 wA N1 ∧ Bx w.heap.size kk ii (.slice a1 n1 p1) (.slice a2 n2 p2) wA ∧ N1 w.heap.size) := by
    have k1 := bel1 w (.cells #[.int .i64 kk, .int .i64 ii, .slice a1 n1 p1, .slice a2 n2 p2] 43)
    have hs : wA.heap.size = w.heap.size + 1 := by rw [hwA]; simp
    rw [← hwA] at k1
    refine ⟨by rw [hN1]; exact HP0.out.later (jd_owns _ _ _ _ _ _ _ _) (jr_owns _ _ _ _ _ _) k1, ⟨?_, ?_, ?_, ?_⟩, by rw [hN1]; exact Or.inr ⟨Nat.le_refl _, by omega⟩⟩
    · rw [hwA]; simp [go_sem]
    · rw [hwA]; simp [go_sem]
    · rw [hwA]; simp [go_sem]
    · rw [hwA]; simp [go_sem]
  have HVb : Hid (∀ {S T : World → (Nat → Prop) → Prop} {W : World}, P2 S T w0 W N1 → Bs W (.slice a1 n1 p1) b ∧ Fts W (.slice a2 n2 p2) fs) := fun h => ⟨HV.out.1.later h.bel, HV.out.2.2.2.2.1.later h.bel⟩
  have HO : Hid (Ou w0.heap.size N1 (.slice a1 n1 p1) ∧ Ou w0.heap.size N1 (.slice a2 n2 p2)) := ⟨HV.out.2.1.up (fun k h => h.elim), HV.out.2.2.2.2.2.1.up (fun k h => h.elim)⟩
  go_enter Tryd.func13, Tryd.ntmps13
  go_upto_region 1 with fail
  rw [← hwA]
  clear hwA hN1 HP0
  generalize w.heap.size = bo at *
  have y0 := HX.out.2.1.y0
  have y1 := HX.out.2.1.y1
  have y2 := HX.out.2.1.y2
  have y3 := HX.out.2.1.y3
  have x0 := HX.out.1.rj.c0
  by_cases q1 : kk = 1
  · subst q1
    go_wp2_with fail
    refine (jrAppend (jd_owns _ _ _ _ _ _ _ _) HX.out.1 HQ.out.1 HQ.out.2.1 HQ.out.2.2.1 (by have := HQ.out; omega) (by have := HQ.out; omega) (HVb.out HX.out.1).1 HO.out.1 HV.out.2.2.1 (by have := HNN.out; have := HV.out; omega)).mono ?_
    rintro e v1 ⟨rfl, hD, hK⟩
    have HX1 : Hid (P2 (JD V J d q base size (s) j) (JR r0 c base size ((japp s base size j b).2.1) (japp s base size j b).2.2) w0 v1 N1 ∧ Bx bo 1 ii (.slice a1 n1 p1) (.slice a2 n2 p2) v1 ∧ N1 bo) := ⟨hD, HX.out.2.1.kn hK HX.out.2.2, HX.out.2.2⟩
    clear hD hK HX
    clear y0 y1 y2 y3 x0
    have y0 := HX1.out.2.1.y0
    have y1 := HX1.out.2.1.y1
    have y2 := HX1.out.2.1.y2
    have y3 := HX1.out.2.1.y3
    have x0 := HX1.out.1.rj.c0
    go_wp2_with fail
    refine (jdAppend (jr_owns _ _ _ _ _ _) HX1.out.1 HT.out HQ.out.1 HQ.out.2.1 HQ.out.2.2.1 (by have := HQ.out; omega) (by have := HQ.out; omega) (HVb.out HX1.out.1).1 HO.out.1 HV.out.2.2.1 (by have := HNN.out; have := HV.out; omega)).mono ?_
    rintro e v2 ⟨rfl, hD, hK⟩
    have HX2 : Hid (P2 (JD V J d q base size ((japp s base size j b).2.1) (japp s base size j b).2.2) (JR r0 c base size ((japp s base size j b).2.1) (japp s base size j b).2.2) w0 v2 N1 ∧ Bx bo 1 ii (.slice a1 n1 p1) (.slice a2 n2 p2) v2 ∧ N1 bo) := ⟨hD, HX1.out.2.1.kn hK HX1.out.2.2, HX1.out.2.2⟩
    clear hD hK HX1
    clear y0 y1 y2 y3 x0
    have y0 := HX2.out.2.1.y0
    have y1 := HX2.out.2.1.y1
    have y2 := HX2.out.2.1.y2
    have y3 := HX2.out.2.1.y3
    have x0 := HX2.out.1.rj.c0
    have HE : Hid (Jq m ((japp s base size j b).2.1) ∧ JB size (k + 1) (japp s base size j b).2.2) := ⟨jq_app HQ.out.1 HQ.out.2.1 HQ.out.2.2.1 b (by have := HNN.out; have := HV.out; omega), jb_app HQ.out.2.1 b⟩
    go_wp2_with fail
    go_ret
    exact ⟨rfl, (japp s base size j b).2.1, (japp s base size j b).2.2, HX2.out.1.weak (fun _ h => h.elim), HE.out⟩
  by_cases q2 : kk = 2
  · subst q2
    go_wp2_with fail
    refine (jdRead (jr_owns _ _ _ _ _ _) HX.out.1 HT.out HQ.out.1 HQ.out.2.2.1 (by have := HQ.out; omega) ii HQ.out.2.2.2.2.2).mono ?_
    rintro e v1 ⟨t1, rfl, hTt1, hB⟩
    have HX1 : Hid (P2 (JD V J d q base size (s) j) (JR r0 c base size (s) j) w0 v1 N1 ∧ Bx bo 2 ii (.slice a1 n1 p1) (.slice a2 n2 p2) v1 ∧ N1 bo) := ⟨(HX.out.1.later (jd_owns _ _ _ _ _ _ _ _) (jr_owns _ _ _ _ _ _) hB).weak (fun _ h => Or.inl h), HX.out.2.1.later hB, HX.out.2.2⟩
    have HT1 : Hid (Txs v1 t1 (rdL17 s base size ii)) := hTt1
    clear hB hTt1 HX
    clear y0 y1 y2 y3 x0
    have y0 := HX1.out.2.1.y0
    have y1 := HX1.out.2.1.y1
    have y2 := HX1.out.2.1.y2
    have y3 := HX1.out.2.1.y3
    have x0 := HX1.out.1.rj.c0
    go_wp2_with fail
    refine (jrRead (jd_owns _ _ _ _ _ _ _ _) HX1.out.1 HQ.out.1 HQ.out.2.2.1 (by have := HQ.out; omega) ii HQ.out.2.2.2.2.2).mono ?_
    rintro e v2 ⟨t2, rfl, hTt2, hB⟩
    have HX2 : Hid (P2 (JD V J d q base size (s) j) (JR r0 c base size (s) j) w0 v2 N1 ∧ Bx bo 2 ii (.slice a1 n1 p1) (.slice a2 n2 p2) v2 ∧ N1 bo) := ⟨(HX1.out.1.later (jd_owns _ _ _ _ _ _ _ _) (jr_owns _ _ _ _ _ _) hB).weak (fun _ h => Or.inl h), HX1.out.2.1.later hB, HX1.out.2.2⟩
    have HT2 : Hid (Txs v2 t1 (rdL17 s base size ii) ∧ Txs v2 t2 (rdL17 s base size ii)) := ⟨HT1.out.later hB, hTt2⟩
    clear hB hTt2 HX1 HT1
    clear y0 y1 y2 y3 x0
    generalize rdE17 s ii = E at *
    go_wp2_with fail
    refine (texts17 _ _ _ _ v2 HT2.out.1 HT2.out.2).mono ?_
    rintro e v3 ⟨rfl, hB3⟩
    rw [decide_eq_true rfl]
    have HX3 : Hid (P2 (JD V J d q base size s j) (JR r0 c base size s j) w0 v3 (fun _ => False)) := (HX2.out.1.later (jd_owns _ _ _ _ _ _ _ _) (jr_owns _ _ _ _ _ _) hB3).weak (fun _ h => h.elim)
    go_wp2_with fail
    go_ret
    exact ⟨rfl, s, j, HX3.out, HQ.out.1, HQ.out.2.1.up (by omega)⟩
  by_cases q3 : kk = 3
  · subst q3
    obtain ⟨j3, hj3⟩ : ∃ j3, (if ii < 1 then j else ⟨ii.toNat, 0, 0⟩) = j3 := ⟨_, rfl⟩
    obtain ⟨e3, he3⟩ : ∃ e3, (if ii < 1 then 2 else 0 : Nat) = e3 := ⟨_, rfl⟩
    have HJ3 : Hid (JB size (k + 1) j3) := by
      show JB _ _ _
      rw [← hj3]
      split
      · exact HQ.out.2.1.up (by omega)
      · exact jb_begin size (k + 1) HQ.out.2.2.2.2.2
    have HC1 := hid5 (jrBegin (jd_owns _ _ _ _ _ _ _ _) HX.out.1 ii HQ.out.2.2.2.2.2)
    rw [hj3, he3] at HC1
    go_wp2_with fail
    refine (HC1.out).mono ?_
    rintro e v1 ⟨rfl, hD, hK⟩
    have HX1 : Hid (P2 (JD V J d q base size (s) j) (JR r0 c base size (s) j3) w0 v1 N1 ∧ Bx bo 3 ii (.slice a1 n1 p1) (.slice a2 n2 p2) v1 ∧ N1 bo) := ⟨hD, HX.out.2.1.kn hK HX.out.2.2, HX.out.2.2⟩
    clear hD hK HX
    clear y0 y1 y2 y3 x0
    have y0 := HX1.out.2.1.y0
    have y1 := HX1.out.2.1.y1
    have y2 := HX1.out.2.1.y2
    have y3 := HX1.out.2.1.y3
    have x0 := HX1.out.1.rj.c0
    clear HC1
    have HC2 := hid5 (jdBegin (jr_owns _ _ _ _ _ _) HX1.out.1 ii HQ.out.2.2.2.2.2)
    rw [hj3, he3] at HC2
    clear hj3 he3
    go_wp2_with fail
    refine (HC2.out).mono ?_
    rintro e v2 ⟨rfl, hD, hK⟩
    have HX2 : Hid (P2 (JD V J d q base size (s) j3) (JR r0 c base size (s) j3) w0 v2 N1 ∧ Bx bo 3 ii (.slice a1 n1 p1) (.slice a2 n2 p2) v2 ∧ N1 bo) := ⟨hD, HX1.out.2.1.kn hK HX1.out.2.2, HX1.out.2.2⟩
    clear hD hK HX1
    clear y0 y1 y2 y3 x0
    have y0 := HX2.out.2.1.y0
    have y1 := HX2.out.2.1.y1
    have y2 := HX2.out.2.1.y2
    have y3 := HX2.out.2.1.y3
    have x0 := HX2.out.1.rj.c0
    clear HC2
    have HE : Hid (Jq m (s) ∧ JB size (k + 1) j3) := ⟨HQ.out.1, HJ3.out⟩
    go_wp2_with fail
    go_ret
    exact ⟨rfl, s, j3, HX2.out.1.weak (fun _ h => h.elim), HE.out⟩
  by_cases q4 : kk = 4
  · subst q4
    go_wp2_with fail
    refine (jdArm (jr_owns _ _ _ _ _ _) HX.out.1 ii HQ.out.2.2.2.2.2).mono ?_
    rintro e v1 ⟨rfl, hD, hK⟩
    have HX1 : Hid (P2 (JD V J d q base size (arS s ii) j) (JR r0 c base size (s) j) w0 v1 N1 ∧ Bx bo 4 ii (.slice a1 n1 p1) (.slice a2 n2 p2) v1 ∧ N1 bo) := ⟨hD, HX.out.2.1.kn hK HX.out.2.2, HX.out.2.2⟩
    clear hD hK HX
    clear y0 y1 y2 y3 x0
    have y0 := HX1.out.2.1.y0
    have y1 := HX1.out.2.1.y1
    have y2 := HX1.out.2.1.y2
    have y3 := HX1.out.2.1.y3
    have x0 := HX1.out.1.rj.c0
    go_upto_region 14 with fail
    have HX2 : Hid (P2 (JD V J d q base size (arS s ii) j) (JR r0 c base size (s) j) w0 v1.drew N1 ∧ Bx bo 4 ii (.slice a1 n1 p1) (.slice a2 n2 p2) v1.drew ∧ N1 bo) := by
      have k1 : Below v1.heap.size v1 v1.drew := (Below.refl _ _).drew
      exact ⟨(HX1.out.1.later (jd_owns _ _ _ _ _ _ _ _) (jr_owns _ _ _ _ _ _) k1).weak (fun _ h => Or.inl h), HX1.out.2.1.later k1, HX1.out.2.2⟩
    clear HX1
    clear y0 y1 y2 y3 x0
    have y0 := HX2.out.2.1.y0
    have y1 := HX2.out.2.1.y1
    have y2 := HX2.out.2.1.y2
    have y3 := HX2.out.2.1.y3
    have x0 := HX2.out.1.rj.c0
    go_region_held3 (fun w' => w'.cell? ⟨c, 0, none⟩ = some r0 ∧ w'.cell? ⟨bo, 1, none⟩ = some (.int .i64 ii) ∧ w'.cell? ⟨bo, 2, none⟩ = some (.slice a1 n1 p1) ∧ w'.cell? ⟨bo, 3, none⟩ = some (.slice a2 n2 p2))
      (exact ⟨x0, y1, y2, y3⟩)
      (first | (go_at_call 26; refine (jrArm (jd_owns _ _ _ _ _ _ _ _) HX2.out.1 ii HQ.out.2.2.2.2.2).mono ?_; rintro e v2 ⟨rfl, hD, hK⟩; replace x0 := hD.rj.c0; replace y0 := kn_cell hK (a := ⟨bo, 0, none⟩) HX2.out.2.2 y0; replace y1 := kn_cell hK (a := ⟨bo, 1, none⟩) HX2.out.2.2 y1; replace y2 := kn_cell hK (a := ⟨bo, 2, none⟩) HX2.out.2.2 y2; replace y3 := kn_cell hK (a := ⟨bo, 3, none⟩) HX2.out.2.2 y3))
    have HX3 : Hid (P2 (JD V J d q base size (arS s ii) j) (JR r0 c base size (arS s ii) j) w0 v2 N1 ∧ Bx bo 4 ii (.slice a1 n1 p1) (.slice a2 n2 p2) v2 ∧ N1 bo) := ⟨hD, ⟨y0, y1, y2, y3⟩, HX2.out.2.2⟩
    clear hD hK HX2 y0 y1 y2 y3 x0
    have y0 := HX3.out.2.1.y0
    have y1 := HX3.out.2.1.y1
    have y2 := HX3.out.2.1.y2
    have y3 := HX3.out.2.1.y3
    have x0 := HX3.out.1.rj.c0
    have HE : Hid (Jq m (arS s ii) ∧ JB size (k + 1) j) := ⟨jq_ar HQ.out.1 ii, HQ.out.2.1.up (by omega)⟩
    go_wp2_with fail
    go_ret
    exact ⟨rfl, arS s ii, j, HX3.out.1.weak (fun _ h => h.elim), HE.out⟩
  by_cases q5 : kk = 5
  · subst q5
    go_wp2_with fail
    refine (jdCrash (jr_owns _ _ _ _ _ _) HX.out.1 HQ.out.1.le (HVb.out HX.out.1).2 HO.out.2 (by have := HNN.out; have := HV.out; omega)).mono ?_
    rintro e v1 ⟨rfl, hD, hK⟩
    have HX1 : Hid (P2 (JD V J d q base size (crS s fs) j) (JR r0 c base size (s) j) w0 v1 N1 ∧ Bx bo 5 ii (.slice a1 n1 p1) (.slice a2 n2 p2) v1 ∧ N1 bo) := ⟨hD, HX.out.2.1.kn hK HX.out.2.2, HX.out.2.2⟩
    clear hD hK HX
    clear y0 y1 y2 y3 x0
    have y0 := HX1.out.2.1.y0
    have y1 := HX1.out.2.1.y1
    have y2 := HX1.out.2.1.y2
    have y3 := HX1.out.2.1.y3
    have x0 := HX1.out.1.rj.c0
    go_upto_region 17 with fail
    have HX2 : Hid (P2 (JD V J d q base size (crS s fs) j) (JR r0 c base size (s) j) w0 v1.drew N1 ∧ Bx bo 5 ii (.slice a1 n1 p1) (.slice a2 n2 p2) v1.drew ∧ N1 bo) := by
      have k1 : Below v1.heap.size v1 v1.drew := (Below.refl _ _).drew
      exact ⟨(HX1.out.1.later (jd_owns _ _ _ _ _ _ _ _) (jr_owns _ _ _ _ _ _) k1).weak (fun _ h => Or.inl h), HX1.out.2.1.later k1, HX1.out.2.2⟩
    clear HX1
    clear y0 y1 y2 y3 x0
    have y0 := HX2.out.2.1.y0
    have y1 := HX2.out.2.1.y1
    have y2 := HX2.out.2.1.y2
    have y3 := HX2.out.2.1.y3
    have x0 := HX2.out.1.rj.c0
    go_region_held3 (fun w' => w'.cell? ⟨c, 0, none⟩ = some r0 ∧ w'.cell? ⟨bo, 1, none⟩ = some (.int .i64 ii) ∧ w'.cell? ⟨bo, 2, none⟩ = some (.slice a1 n1 p1) ∧ w'.cell? ⟨bo, 3, none⟩ = some (.slice a2 n2 p2))
      (exact ⟨x0, y1, y2, y3⟩)
      (first
        | (go_at_call 28; refine (fates17 _ fs (by have := HNN.out; have := HV.out; omega) _ (HVb.out HX2.out.1).2).mono ?_; rintro e v2 ⟨vf, rfl, hF, hO, hB⟩; replace x0 := cell_later hB x0; replace y0 := cell_later hB y0; replace y1 := cell_later hB y1; replace y2 := cell_later hB y2; replace y3 := cell_later hB y3; have HX4 : Hid (P2 (JD V J d q base size (crS s fs) j) (JR r0 c base size s j) w0 v2 (fun i => N1 i ∨ (v1.drew.heap.size ≤ i ∧ i < v2.heap.size)) ∧ Fts v2 vf fs ∧ Ou w0.heap.size (fun i => N1 i ∨ (v1.drew.heap.size ≤ i ∧ i < v2.heap.size)) vf) := ⟨HX2.out.1.later (jd_owns _ _ _ _ _ _ _ _) (jr_owns _ _ _ _ _ _) hB, hF, fun a n cc e hn => Or.inr (Or.inr ⟨hO a n cc e hn, hF.lo a n cc e hn⟩)⟩; clear hF hO hB)
        | (go_at_call 27; refine (jrCrash (jd_owns _ _ _ _ _ _ _ _) HX4.out.1 HQ.out.1.le HX4.out.2.1 HX4.out.2.2 (by have := HNN.out; have := HV.out; omega)).mono ?_; rintro e v3 ⟨rfl, hD, hK⟩; replace x0 := hD.rj.c0; replace y0 := kn_cell hK (a := ⟨bo, 0, none⟩) (Or.inl HX2.out.2.2) y0; replace y1 := kn_cell hK (a := ⟨bo, 1, none⟩) (Or.inl HX2.out.2.2) y1; replace y2 := kn_cell hK (a := ⟨bo, 2, none⟩) (Or.inl HX2.out.2.2) y2; replace y3 := kn_cell hK (a := ⟨bo, 3, none⟩) (Or.inl HX2.out.2.2) y3))
    have HX3 : Hid (P2 (JD V J d q base size (crS s fs) j) (JR r0 c base size (crS s fs) j) w0 v3 N1 ∧ Bx bo 5 ii (.slice a1 n1 p1) (.slice a2 n2 p2) v3 ∧ N1 bo) := ⟨hD.weak (fun _ h => Or.inl h), ⟨y0, y1, y2, y3⟩, HX2.out.2.2⟩
    clear hD hK HX2 HX4 y0 y1 y2 y3 x0
    have y0 := HX3.out.2.1.y0
    have y1 := HX3.out.2.1.y1
    have y2 := HX3.out.2.1.y2
    have y3 := HX3.out.2.1.y3
    have x0 := HX3.out.1.rj.c0
    have HE : Hid (Jq m (crS s fs) ∧ JB size (k + 1) j) := ⟨jq_cr HQ.out.1 fs, HQ.out.2.1.up (by omega)⟩
    go_wp2_with fail
    go_ret
    exact ⟨rfl, crS s fs, j, HX3.out.1.weak (fun _ h => h.elim), HE.out⟩
  by_cases q6 : kk = 6
  · subst q6
    go_wp2_with fail
    refine (jdWrite (jr_owns _ _ _ _ _ _) HX.out.1 HQ.out.1.le ii (HVb.out HX.out.1).1 HO.out.1 HV.out.2.2.1 (by have := HNN.out; have := HV.out; omega)).mono ?_
    rintro e v1 ⟨rfl, hD, hK⟩
    have HX1 : Hid (P2 (JD V J d q base size (wrS s ii b) j) (JR r0 c base size (s) j) w0 v1 N1 ∧ Bx bo 6 ii (.slice a1 n1 p1) (.slice a2 n2 p2) v1 ∧ N1 bo) := ⟨hD, HX.out.2.1.kn hK HX.out.2.2, HX.out.2.2⟩
    clear hD hK HX
    clear y0 y1 y2 y3 x0
    have y0 := HX1.out.2.1.y0
    have y1 := HX1.out.2.1.y1
    have y2 := HX1.out.2.1.y2
    have y3 := HX1.out.2.1.y3
    have x0 := HX1.out.1.rj.c0
    go_upto_region 20 with fail
    have HX2 : Hid (P2 (JD V J d q base size (wrS s ii b) j) (JR r0 c base size (s) j) w0 v1.drew N1 ∧ Bx bo 6 ii (.slice a1 n1 p1) (.slice a2 n2 p2) v1.drew ∧ N1 bo) := by
      have k1 : Below v1.heap.size v1 v1.drew := (Below.refl _ _).drew
      exact ⟨(HX1.out.1.later (jd_owns _ _ _ _ _ _ _ _) (jr_owns _ _ _ _ _ _) k1).weak (fun _ h => Or.inl h), HX1.out.2.1.later k1, HX1.out.2.2⟩
    clear HX1
    clear y0 y1 y2 y3 x0
    have y0 := HX2.out.2.1.y0
    have y1 := HX2.out.2.1.y1
    have y2 := HX2.out.2.1.y2
    have y3 := HX2.out.2.1.y3
    have x0 := HX2.out.1.rj.c0
    go_region_held3 (fun w' => w'.cell? ⟨c, 0, none⟩ = some r0 ∧ w'.cell? ⟨bo, 1, none⟩ = some (.int .i64 ii) ∧ w'.cell? ⟨bo, 2, none⟩ = some (.slice a1 n1 p1) ∧ w'.cell? ⟨bo, 3, none⟩ = some (.slice a2 n2 p2))
      (exact ⟨x0, y1, y2, y3⟩)
      (first | (go_at_call 30; refine (jrWrite (jd_owns _ _ _ _ _ _ _ _) HX2.out.1 HQ.out.1.le ii (HVb.out HX2.out.1).1 HO.out.1 HV.out.2.2.1 (by have := HNN.out; have := HV.out; omega)).mono ?_; rintro e v2 ⟨rfl, hD, hK⟩; replace x0 := hD.rj.c0; replace y0 := kn_cell hK (a := ⟨bo, 0, none⟩) HX2.out.2.2 y0; replace y1 := kn_cell hK (a := ⟨bo, 1, none⟩) HX2.out.2.2 y1; replace y2 := kn_cell hK (a := ⟨bo, 2, none⟩) HX2.out.2.2 y2; replace y3 := kn_cell hK (a := ⟨bo, 3, none⟩) HX2.out.2.2 y3))
    have HX3 : Hid (P2 (JD V J d q base size (wrS s ii b) j) (JR r0 c base size (wrS s ii b) j) w0 v2 N1 ∧ Bx bo 6 ii (.slice a1 n1 p1) (.slice a2 n2 p2) v2 ∧ N1 bo) := ⟨hD, ⟨y0, y1, y2, y3⟩, HX2.out.2.2⟩
    clear hD hK HX2 y0 y1 y2 y3 x0
    have y0 := HX3.out.2.1.y0
    have y1 := HX3.out.2.1.y1
    have y2 := HX3.out.2.1.y2
    have y3 := HX3.out.2.1.y3
    have x0 := HX3.out.1.rj.c0
    have HU3 : Hid ((wrS s ii b).un.length ≤ 100) := by show _ ≤ _; have := (bl_wr s ii b).2; have := HQ.out.1.le; omega
    go_wp2_with fail
    refine (jdFlush (jr_owns _ _ _ _ _ _) HX3.out.1 HU3.out).mono ?_
    rintro e v3 ⟨rfl, hD, hK⟩
    have HX4 : Hid (P2 (JD V J d q base size (flS (wrS s ii b)) j) (JR r0 c base size (wrS s ii b) j) w0 v3 N1 ∧ Bx bo 6 ii (.slice a1 n1 p1) (.slice a2 n2 p2) v3 ∧ N1 bo) := ⟨hD, HX3.out.2.1.kn hK HX3.out.2.2, HX3.out.2.2⟩
    clear hD hK HX3
    clear y0 y1 y2 y3 x0
    have y0 := HX4.out.2.1.y0
    have y1 := HX4.out.2.1.y1
    have y2 := HX4.out.2.1.y2
    have y3 := HX4.out.2.1.y3
    have x0 := HX4.out.1.rj.c0
    go_wp2_with fail
    refine (jrFlush (jd_owns _ _ _ _ _ _ _ _) HX4.out.1 HU3.out).mono ?_
    rintro e v4 ⟨rfl, hD, hK⟩
    have HX5 : Hid (P2 (JD V J d q base size (flS (wrS s ii b)) j) (JR r0 c base size (flS (wrS s ii b)) j) w0 v4 N1 ∧ Bx bo 6 ii (.slice a1 n1 p1) (.slice a2 n2 p2) v4 ∧ N1 bo) := ⟨hD, HX4.out.2.1.kn hK HX4.out.2.2, HX4.out.2.2⟩
    clear hD hK HX4
    clear y0 y1 y2 y3 x0
    have y0 := HX5.out.2.1.y0
    have y1 := HX5.out.2.1.y1
    have y2 := HX5.out.2.1.y2
    have y3 := HX5.out.2.1.y3
    have x0 := HX5.out.1.rj.c0
    have HE : Hid (Jq m (flS (wrS s ii b)) ∧ JB size (k + 1) j) := ⟨jq_wrfl HQ.out.1 ii b, HQ.out.2.1.up (by omega)⟩
    go_wp2_with fail
    go_ret
    exact ⟨rfl, flS (wrS s ii b), j, HX5.out.1.weak (fun _ h => h.elim), HE.out⟩
  have HE : Hid (Jq m (s) ∧ JB size (k + 1) j) := ⟨HQ.out.1, HQ.out.2.1.up (by omega)⟩
  go_wp2_with fail
  go_ret
  exact ⟨rfl, s, j, HX.out.1.weak (fun _ h => h.elim), HE.out⟩
end Go.Proofs.YtkbpcmjdfaokhaaDoor
