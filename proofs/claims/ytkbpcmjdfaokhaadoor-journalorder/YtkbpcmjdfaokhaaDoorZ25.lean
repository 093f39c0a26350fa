/-
Layer 17: a new journal; what is left; the law's awake.
A map of blocks by their numbers, as the program's disk keeps it.
-/
import Derived.Test.YtkbpcmjdfaokhaaDoorZ24
import Derived.Test.YtkbpcmjdfaokhaaDoorZ05
import Derived.Test.YtkbpcmjdfaokhaaDoorZ14
import Derived.Test.YtkbpcmjdfaokhaaDoorZ00
import Derived.Test.YtkbpcmjdfaokhaaDoorZ04
import Derived.Laws.BytesArg
import Derived.Lib.SlBytesConst
import Derived.MapKept
import Derived.ChangeMaps5

set_option linter.unusedVariables false
set_option linter.unusedSimpArgs false
namespace Go.Proofs.YtkbpcmjdfaokhaaDoor
open Go.RowKit

theorem jdNew {V : Disk1} (J : Jour1 V) {w0 w : World} {d : Value} {s : Dsk} (h : Dw V w0 w d s) (base size : Nat) (h1 : 1 ≤ size) (hr : base + size ≤ s.bl.length) :
    Calls Tryd.prog 10 #[d, .int .i64 (base : Int), .int .i64 (size : Int)] w fun e w' => ∃ a, e = .returned (.tuple #[.pointer (some a), .int .i64 0]) ∧ P2 (JD V J d (.pointer (some a)) base size s ⟨0, 0, 0⟩) Nil2 w0 w' (fun _ => False) := by
  obtain ⟨F, k1, k2, k3⟩ := h
  refine (J.newY w d F s base size k1 h1 hr).mono fun e w' ⟨a, G, e1, e2, e3, e4⟩ => ⟨a, e1, fun k => F k ∨ G k, fun _ => False, ⟨F, G, V.dtK k1 (fun k hk => e4.block k (V.dtB k1 k hk)) e4.size, e2, fun k hf hg => ?_, rfl⟩, fun k h => h.elim, fun k hk => ?_, fun k h => h.elim, fun k _ h => h.elim, fun k h => h.elim, bchain k3 e4⟩
  · have := V.dtB k1 k hf; have := e3 k hg; omega
  · have := k3.size
    rcases hk with hk | hk
    · exact k2 k hk
    · have := e3 k hk; omega
theorem P2.dw {V : Disk1} {J : Jour1 V} {T : World → (Nat → Prop) → Prop} {w0 w : World} {N : Nat → Prop} {d q : Value} {base size : Nat} {s : Dsk} {j : Jst} (h : P2 (JD V J d q base size s j) T w0 w N) : Dw V w0 w d s := by
  obtain ⟨A, B, ⟨F, G, h1, h2, h3, rfl⟩, -, h4, -, -, -, h5⟩ := h
  exact ⟨F, h1, fun k hk => h4 k (Or.inl hk), h5⟩
theorem jdLeft {V : Disk1} {J : Jour1 V} {T : World → (Nat → Prop) → Prop} (oT : Owns T) {w0 w : World} {N : Nat → Prop} {d q : Value} {base size : Nat} {s : Dsk} {j : Jst} (h : P2 (JD V J d q base size s j) T w0 w N) (hn : j.next ≤ size) :
    Calls Tryd.prog 15 #[q] w fun e w' => e = .returned (.int .i64 ((if j.gen = 0 then 0 else size - j.next : Nat) : Int)) ∧ Below w.heap.size w w' := by
  obtain ⟨A, ⟨F, G, h1, h2, h3, rfl⟩, h4, h5, h6⟩ := h.left oT
  exact J.left w q d F G s base size j h2 h1 hn
theorem ow_ou {B0 B n : Nat} {v : Value} (h : Ow B v) (hl : Lo n v) : Ou B0 (fun i => False ∨ (B ≤ i ∧ i < n)) v := fun a n c e hn => Or.inr (Or.inr ⟨h a n c e hn, hl a n c e hn⟩)
/-- An Append of a list that was made just now. -/
theorem jdAppendY {V : Disk1} {J : Jour1 V} {w0 w w1 : World} {d q : Value} {base size m k : Nat} {s : Dsk} {j : Jst} (h : P2 (JD V J d q base size s j) Nil2 w0 w (fun _ => False)) (hk : Below w.heap.size w w1) (hT : JT w0) (hq : Jq m s) (hb : JB size k j) (hr : base + size ≤ m) (hm : m ≤ 900) (hk2 : k ≤ 1000000) {v : Value} {r : List Nat} (hv : Bs w1 v r) (ho : Ow w.heap.size v) (hx : ∀ x ∈ r, x < 256) (hl : r.length ≤ 1000000) :
    Calls Tryd.prog 18 #[q, v] w1 fun e w' => e = .returned (.int .i64 (((japp s base size j r).1 : Nat) : Int)) ∧ P2 (JD V J d q base size (japp s base size j r).2.1 (japp s base size j r).2.2) Nil2 w0 w' (fun _ => False) :=
  (jdAppend owns_nil (h.later (jd_owns _ _ _ _ _ _ _ _) owns_nil hk) hT hq hb hr hm hk2 hv (ow_ou ho (Ls.lo hv)) hx hl).mono fun e w' ⟨e1, e2, _⟩ => ⟨e1, e2.weak (fun _ h => h.elim)⟩
/-- What awake sees. -/
structure Aw17 (s1 s2 : Dsk) (j1 j2 : Jst) : Prop where
  q1 : Jq 3 s1
  q2 : Jq 3 s2
  b1 : JB 3 1 j1
  b2 : JB 3 2 j2
  e1 : japp (dNew 3) 0 3 ⟨1, 0, 0⟩ [97, 98] = (0, s1, j1)
  e2 : japp s1 0 3 j1 (List.replicate 105 0) = (0, s2, j2)
  l : (if j2.gen = 0 then 0 else 3 - j2.next : Nat) = 0
  r : rdE17 s2 1 = 0
  x : rdL17 s2 0 3 1 = [[97, 98], List.replicate 105 0]
theorem tri17 {x : Nat × Dsk × Jst} {a : Nat} (h : x.1 = a) : x = (a, x.2.1, x.2.2) := by
  obtain ⟨p, q, r⟩ := x
  simp at h
  simp [h]
theorem aw17 : ∃ s1 s2 j1 j2, Aw17 s1 s2 j1 j2 := by
  have q1 := jq_app (jq_new 3) (j := ⟨1, 0, 0⟩) (base := 0) (size := 3) (k := 0) ⟨by decide, by decide, by decide⟩ (by decide) [97, 98] (by decide)
  have b1 := jb_app (s := dNew 3) (base := 0) (size := 3) (k := 0) (j := ⟨1, 0, 0⟩) ⟨by decide, by decide, by decide⟩ [97, 98]
  have q2 := jq_app (base := 0) (size := 3) q1 b1 (by decide) (List.replicate 105 0) (by rw [List.length_replicate]; omega)
  have b2 := jb_app (s := (japp (dNew 3) 0 3 ⟨1, 0, 0⟩ [97, 98]).2.1) (base := 0) b1 (List.replicate 105 0)
  exact ⟨_, _, _, _, q1, q2, b1, b2, tri17 (by decide +kernel), tri17 (by decide +kernel), by decide +kernel, by decide +kernel, by decide +kernel⟩
set_option maxRecDepth 100000 in
set_option maxHeartbeats 8000000 in
theorem awake17 {V : Disk1} (J : Jour1 V) (w : World) (hT : JT w) :
    Calls Tryd.prog 7 #[] w fun e w' => e = .returned (.bool true) ∧ Below w.heap.size w w' := by
  obtain ⟨s1, s2, j1, j2, hS⟩ := aw17
  have HS : Hid (Aw17 s1 s2 j1 j2) := hS
  have HT : Hid (JT w) := hT
  clear hS hT
  have km : ∀ W : World, (Instr.makeSlice 40 (.int .i64 105) (.int .i64 105)).run Tryd.prog W = .ok (.slice (some ⟨W.heap.size, 0, none⟩) 105 105) (W.alloc (.cells (madeCells #[.int .u8 0] 105) 5)) := fun W => make_by15 105 (by omega) W
  have kc := fun (w : World) (C : Array Value) (n c : Nat) => Lib.run_convert_bytes_const (P := Tryd.prog) w 40 5 C n c Tryd.underlying40 Tryd.underlying5
  go_enter Tryd.func7, Tryd.ntmps7
  go_wp2_with fail
  refine (dwNew V w w 3 (by omega) (by omega) (Below.refl _ _)).mono ?_
  rintro e w1 ⟨p, rfl, hD1⟩
  have HD1 : Hid (Dw V w w1 p (dNew 3)) := hD1
  clear hD1
  go_wp2_with fail
  refine (jdNew J HD1.out 0 3 (by omega) (by decide)).mono ?_
  rintro e w2 ⟨a, rfl, hD2⟩
  have HD2 : Hid (P2 (JD V J p (.pointer (some a)) 0 3 (dNew 3) ⟨0, 0, 0⟩) Nil2 w w2 (fun _ => False)) := hD2
  clear hD2 HD1
  go_wp2_with fail
  refine (jdBegin owns_nil HD2.out 1 ⟨by decide, by decide⟩).mono ?_
  rintro e w3 ⟨rfl, hD3, -⟩
  have HD3 : Hid (P2 (JD V J p (.pointer (some a)) 0 3 (dNew 3) ⟨1, 0, 0⟩) Nil2 w w3 (fun _ => False)) := hD3
  clear hD3 HD2
  go_wp2_with fail
  refine (jdAppendY HD3.out (bel1 _ _) HT.out (jq_new 3) (k := 0) ⟨by decide, by decide, by decide⟩ (by decide) (by decide) (by decide) (bs_two15 w3 97 98 _ _) (ow_at (Nat.le_refl _)) (by decide) (by decide)).mono ?_
  rintro e w4 ⟨rfl, hD4⟩
  rw [HS.out.e1] at hD4 ⊢
  have HD4 : Hid (P2 (JD V J p (.pointer (some a)) 0 3 s1 j1) Nil2 w w4 (fun _ => False)) := hD4
  clear hD4 HD3
  go_wp2_with fail
  refine (jdAppendY HD4.out (bel1 _ _) HT.out HS.out.q1 HS.out.b1 (by decide) (by decide) (by decide) (bs_made15 w4 105 (by omega)) (ow_at (Nat.le_refl _)) (by decide) (by decide)).mono ?_
  rintro e w5 ⟨rfl, hD5⟩
  rw [HS.out.e2] at hD5 ⊢
  have HD5 : Hid (P2 (JD V J p (.pointer (some a)) 0 3 s2 j2) Nil2 w w5 (fun _ => False)) := hD5
  clear hD5 HD4
  go_wp2_with fail
  refine (jdLeft owns_nil HD5.out HS.out.b2.nx).mono ?_
  rintro e w6 ⟨rfl, hb6⟩
  rw [HS.out.l]
  have HD6 : Hid (P2 (JD V J p (.pointer (some a)) 0 3 s2 j2) Nil2 w w6 (fun _ => False)) := (HD5.out.later (jd_owns _ _ _ _ _ _ _ _) owns_nil hb6).weak (fun _ h => h.elim)
  clear hb6 HD5
  go_wp2_with fail
  refine (jdRead owns_nil HD6.out HT.out HS.out.q2 (by decide) (by decide) 1 ⟨by decide, by decide⟩).mono ?_
  rintro e w7 ⟨v, rfl, hT, hb7⟩
  rw [HS.out.r]
  rw [HS.out.x] at hT
  have HB7 : Hid (Below w.heap.size w w7) := bchain HD6.out.bel hb7
  obtain ⟨at_, ct, et, -, -⟩ := hT.len
  subst et
  obtain ⟨b1, o1, x, e1, c1, hx⟩ := hT.cel 0 (by decide)
  obtain ⟨b2, o2, y, e2, c2, hy⟩ := hT.cel 1 (by decide)
  subst e1
  injection e2 with e2
  injection e2 with e2 e3
  subst e2 e3
  have hx' : Bs w7 x [97, 98] := hx
  have hy' : Bs w7 y (List.replicate 105 0) := hy
  obtain ⟨ax, cx, ex, -, -⟩ := hx'.len
  obtain ⟨ay, cy, ey, -, -⟩ := hy'.len
  rw [List.length_replicate] at ey
  subst ex ey
  obtain ⟨gx, ox, e5, d0⟩ := hx'.cel 0 (by decide)
  obtain ⟨gx2, ox2, e6, d1⟩ := hx'.cel 1 (by decide)
  subst e5
  injection e6 with e6
  injection e6 with e6 e7
  subst e6 e7
  have kv : (convert 40 9 (.slice (some ⟨gx, ox, none⟩) 2 cx)).run Tryd.prog w7 = .ok (.string (strOfNums [97, 98])) w7 := run_convert_bytes_arg (P := Tryd.prog) w7 40 5 Tryd.underlying40 Tryd.underlying5 gx ox 2 cx [97, 98] rfl (fun i hi => by
    rcases i with _ | _ | i
    · exact d0
    · exact d1
    · omega) 9 Tryd.underlying9
  have hst : strOfNums [97, 98] = ⟨#[97, 98]⟩ := rfl
  rw [hst] at kv
  have c1' : w7.cell? ⟨b1, o1, none⟩ = some (.slice (some ⟨gx, ox, none⟩) 2 cx) := c1
  have hl2 : ([[97, 98], List.replicate 105 0] : List (List Nat)).length = 2 := rfl
  rw [hl2]
  clear hx hy hx' hy' hT hb7 HD6 hst c1 d0 d1
  go_wp2_with fail
  go_ret
  exact ⟨rfl, HB7.out⟩
end Go.Proofs.YtkbpcmjdfaokhaaDoor
set_option linter.unusedVariables false
set_option linter.unusedSimpArgs false
namespace Go.Proofs.YtkbpcmjdfaokhaaDoor
open Go.RowKit Go.MapKept Go.ChangeMaps

/-- A block of noughts. -/
def zr15 : List Nat := List.replicate 128 0
theorem zr_len : zr15.length = 128 := by unfold zr15; rw [List.length_replicate]
theorem zr_get (j : Nat) : zr15.getD j 0 = 0 := by
  unfold zr15
  rw [List.getD_eq_getElem?_getD, List.getElem?_replicate]
  split <;> rfl
/-- A block as a value. -/
def bkV (b : List Nat) : Value := .agg (b8 b).toArray
/-- A block's number as a key. -/
def key15 (i : Nat) : Value := .int .i64 (i : Int)
theorem key15_inj {i j : Nat} (h : key15 i = key15 j) : i = j := by
  unfold key15 at h
  injection h with _ h
  omega
/-- Entries that say which blocks aren't noughts. -/
structure Ent (es : Array MapEntry) (bl : List (List Nat)) : Prop where
  all : ∀ e ∈ es.toList, ∃ i, i < bl.length ∧ e.key = key15 i ∧ e.val = bkV (bl.getD i [])
  two : es.toList.Pairwise fun x y => x.key ≠ y.key
  non : ∀ i, i < bl.length → (∀ e ∈ es.toList, e.key ≠ key15 i) → bl.getD i [] = zr15
/-- A map in memory. -/
def Mz (w : World) (M : Nat) (bl : List (List Nat)) : Prop := ∃ es clock, w.heap[M]? = some (.map es clock) ∧ Ent es bl
theorem Mz.lt {w : World} {M : Nat} {bl : List (List Nat)} (h : Mz w M bl) : M < w.heap.size := by
  obtain ⟨es, c, h, -⟩ := h
  exact (Array.getElem?_eq_some_iff.1 h).1
theorem Mz.kept {w w' : World} {M : Nat} {bl : List (List Nat)} (h : Mz w M bl) (k : w'.heap[M]? = w.heap[M]?) : Mz w' M bl := by
  obtain ⟨es, c, h1, h2⟩ := h
  exact ⟨es, c, k.trans h1, h2⟩
theorem Mz.fro {w : World} {M : Nat} {bl : List (List Nat)} (h : Mz w M bl) (o : Nat) : w.cell? ⟨M, o, none⟩ = none := by
  obtain ⟨es, c, h1, h2⟩ := h
  simp [World.cell?, h1]
theorem Mz.made (w : World) (n : Nat) : Mz (w.alloc (.map #[] 0)) w.heap.size (List.replicate n zr15) :=
  ⟨#[], 0, (heap_alloc w _).1, fun e he => by simp at he, by simp, fun i hi _ => by
    rw [List.length_replicate] at hi
    simp [List.getD, hi]⟩
theorem und_map15 : Tryd.prog.underlying 67 = some (.map 3 100) := by kernel_rfl
theorem und_int15 : Tryd.prog.underlying 3 = some (.int .i64) := by kernel_rfl
theorem info_blk15 : (Tryd.prog.info? 100).map (fun i => (i.zero, i.size)) = some (some (bkV zr15), 128) := by kernel_rfl
theorem zero_blk15 (w : World) : (zeroValue 100).run Tryd.prog w = .ok (bkV zr15) w := by
  have h := info_blk15
  cases hq : Tryd.prog.info? 100 with
  | none => rw [hq] at h; simp at h
  | some i =>
    rw [hq] at h
    simp only [Option.map_some, Option.some.injEq, Prod.mk.injEq] at h
    simp [zeroValue, typeInfo, hq, h.1]
theorem isKey15 (i : Nat) : IsKey (.int .i64) (key15 i) := by unfold key15; simp [IsKey]
theorem Ent.keys {es : Array MapEntry} {bl : List (List Nat)} (h : Ent es bl) : ∀ x ∈ es.toList, IsKey (.int .i64) x.key := fun x hx => by
  obtain ⟨i, _, e, _⟩ := h.all x hx
  rw [e]
  exact isKey15 i
theorem map_look {w : World} {M : Nat} {bl : List (List Nat)} (h : Mz w M bl) (i : Nat) (hi : i < bl.length) :
    (Instr.lookup 67 (.map (some M)) (key15 i) false).run Tryd.prog w = .ok (bkV (bl.getD i [])) w := by
  obtain ⟨es, clock, hb, H⟩ := h
  rcases findNow_spec (isKey15 i) es.toList 0 H.keys with ⟨h1, h2⟩ | ⟨j, e0, h1, h2, h3⟩
  · rw [H.non i hi h2]
    simp [Instr.lookup, run_underlying und_map15, MapKept.run_getObj_map hb, run_checkKey und_int15 (isKey15 i), run_findKey und_int15 h1, zero_blk15, Result.andThen] <;> kernel_rfl
  · obtain ⟨i', hi', e1, e2⟩ := H.all e0 (List.mem_of_getElem? h2)
    have : i' = i := key15_inj (e1.symm.trans h3)
    subst this
    simp [Instr.lookup, run_underlying und_map15, MapKept.run_getObj_map hb, run_checkKey und_int15 (isKey15 i'), run_findKey und_int15 h1, Result.andThen, e2]
theorem ent_mem_set {es : Array MapEntry} {bl : List (List Nat)} (H : Ent es bl) {j : Nat} {e0 : MapEntry} (h2 : es.toList[j]? = some e0) (u : MapEntry) {x : MapEntry} (hx : x ∈ es.toList.set j u) : x = u ∨ (x ∈ es.toList ∧ x.key ≠ e0.key) := by
  obtain ⟨k, hk, ex⟩ := List.getElem_of_mem hx
  rw [List.getElem_set] at ex
  split at ex
  · exact Or.inl ex.symm
  · rename_i hne
    have hk' : k < es.toList.length := by simpa using hk
    obtain ⟨hj, ej⟩ := List.getElem?_eq_some_iff.1 h2
    refine Or.inr ⟨ex ▸ List.getElem_mem hk', ?_⟩
    have hp := List.pairwise_iff_getElem.1 H.two
    rw [← ex, ← ej]
    rcases Nat.lt_or_gt_of_ne hne with q | q
    · exact fun e => hp j k hj hk' q e.symm
    · exact hp k j hk' hj q
theorem ent_get {bl : List (List Nat)} (i : Nat) (b : List Nat) (hi : i < bl.length) : (bl.set i b).getD i [] = b := by simp [List.getD, List.getElem?_set, hi]
theorem ent_ne {bl : List (List Nat)} {i k : Nat} (b : List Nat) (h : i ≠ k) : (bl.set i b).getD k [] = bl.getD k [] := by simp [List.getD, List.getElem?_set, h]
theorem map_put {w : World} {M : Nat} {bl : List (List Nat)} (h : Mz w M bl) (i : Nat) (b : List Nat) (hi : i < bl.length) :
    ∃ w', (Instr.mapUpdate 67 (.map (some M)) (key15 i) (bkV b)).run Tryd.prog w = .ok () w' ∧ Mz w' M (bl.set i b) ∧ Kp (fun k => k = M) w w' := by
  obtain ⟨es, clock, hb, H⟩ := h
  have kp : ∀ o, Kp (fun k => k = M) w (setBlock w M o) := fun o => ⟨rfl, rfl, rfl, by simp [setBlock], fun k _ hn => heap_setBlock_other hb o hn⟩
  rcases findNow_spec (isKey15 i) es.toList 0 H.keys with ⟨h1, h2⟩ | ⟨j, e0, h1, h2, h3⟩
  · refine ⟨setBlock w M (.map (es.push ⟨key15 i, bkV b, clock⟩) (clock + 1)), ?_, ⟨_, _, heap_setBlock_same hb _, fun x hx => ?_, ?_, fun k hk hn => ?_⟩, kp _⟩
    · simp [Instr.mapUpdate, run_underlying und_map15, MapKept.run_getObj_map hb, run_checkKey und_int15 (isKey15 i), run_findKey und_int15 h1, MapKept.run_setObj_map _ hb, Result.andThen, setBlock]
    · simp only [Array.toList_push, List.mem_append, List.mem_singleton] at hx
      rw [List.length_set]
      rcases hx with hx | rfl
      · obtain ⟨k, hk, e1, e2⟩ := H.all x hx
        have hne : i ≠ k := fun e => h2 x hx (by rw [e1, e])
        exact ⟨k, hk, e1, by rw [ent_ne b hne]; exact e2⟩
      · exact ⟨i, hi, rfl, by rw [ent_get i b hi]⟩
    · rw [Array.toList_push, List.pairwise_append]
      refine ⟨H.two, by simp, fun x hx y hy => ?_⟩
      rw [List.mem_singleton] at hy
      subst hy
      exact h2 x hx
    · rw [List.length_set] at hk
      have hne : i ≠ k := fun e => hn ⟨key15 i, bkV b, clock⟩ (by simp) (by rw [e])
      rw [ent_ne b hne]
      exact H.non k hk (fun e he => hn e (by simp [he]))
  · have hj : es[j]? = some e0 := by simpa using h2
    have hlist : (es.modify j (fun e' => { e' with key := key15 i, val := bkV b })).toList = es.toList.set j { e0 with key := key15 i, val := bkV b } := by rw [Array.toList_modify, modify_eq_set _ _ _ _ h2]
    have hjl : j < es.toList.length := (List.getElem?_eq_some_iff.1 h2).1
    refine ⟨setBlock w M (.map (es.modify j (fun e' => { e' with key := key15 i, val := bkV b })) clock), ?_, ⟨_, _, heap_setBlock_same hb _, fun x hx => ?_, ?_, fun k hk hn => ?_⟩, kp _⟩
    · simp [Instr.mapUpdate, run_underlying und_map15, MapKept.run_getObj_map hb, run_checkKey und_int15 (isKey15 i), run_findKey und_int15 h1, hj, h3, run_keyThatStays (isKey15 i), MapKept.run_setObj_map _ hb, Result.andThen, setBlock]
    · rw [hlist] at hx
      rw [List.length_set]
      rcases ent_mem_set H h2 _ hx with rfl | ⟨hx', hne⟩
      · exact ⟨i, hi, rfl, by rw [ent_get i b hi]⟩
      · obtain ⟨k, hk, e1, e2⟩ := H.all x hx'
        have hik : i ≠ k := fun e => hne (by rw [h3, e1, e])
        exact ⟨k, hk, e1, by rw [ent_ne b hik]; exact e2⟩
    · rw [hlist]
      have hp := List.pairwise_iff_getElem.1 H.two
      obtain ⟨_, ej⟩ := List.getElem?_eq_some_iff.1 h2
      refine List.pairwise_iff_getElem.2 (fun p q hp1 hq1 hpq => ?_)
      have hp2 : p < es.toList.length := by simpa using hp1
      have hq2 : q < es.toList.length := by simpa using hq1
      rw [List.getElem_set, List.getElem_set]
      split
      · rename_i e
        subst e
        rw [if_neg (by omega)]
        have := hp j q hp2 hq2 hpq
        rw [ej, h3] at this
        exact this
      · split
        · rename_i e2
          subst e2
          have := hp p j hp2 hq2 hpq
          rw [ej, h3] at this
          exact this
        · exact hp p q hp2 hq2 hpq
    · rw [List.length_set] at hk
      rw [hlist] at hn
      have hne : i ≠ k := fun e => hn { e0 with key := key15 i, val := bkV b } (List.mem_iff_getElem.2 ⟨j, by simpa using hjl, by simp⟩) (by rw [e])
      rw [ent_ne b hne]
      refine H.non k hk (fun e he => ?_)
      obtain ⟨q, hq, eq⟩ := List.getElem_of_mem he
      by_cases hqj : j = q
      · subst hqj
        obtain ⟨_, ej⟩ := List.getElem?_eq_some_iff.1 h2
        rw [← eq, ej, h3]
        exact fun e => hne (key15_inj e)
      · refine hn e (List.mem_iff_getElem.2 ⟨q, by simpa using hq, ?_⟩)
        rw [List.getElem_set, if_neg hqj]
        exact eq
theorem map_del {w : World} {M : Nat} {bl : List (List Nat)} (h : Mz w M bl) (i : Nat) (hi : i < bl.length) :
    ∃ w', (∀ ty, (Builtin.delete_ #[67, 3] ty #[.map (some M), key15 i]).run Tryd.prog w = .ok (.tuple #[]) w') ∧ Mz w' M (bl.set i zr15) ∧ Kp (fun k => k = M) w w' := by
  obtain ⟨es, clock, hb, H⟩ := h
  have kp : ∀ o, Kp (fun k => k = M) w (setBlock w M o) := fun o => ⟨rfl, rfl, rfl, by simp [setBlock], fun k _ hn => heap_setBlock_other hb o hn⟩
  rcases findNow_spec (isKey15 i) es.toList 0 H.keys with ⟨h1, h2⟩ | ⟨j, e0, h1, h2, h3⟩
  · refine ⟨setBlock w M (.map es clock), ?_, ⟨_, _, heap_setBlock_same hb _, fun x hx => ?_, H.two, fun k hk hn => ?_⟩, kp _⟩
    · intro ty; simp [Builtin.delete_, run_underlying und_map15, MapKept.run_getObj_map hb, run_checkKey und_int15 (isKey15 i), run_findKey und_int15 h1, MapKept.run_setObj_map _ hb, Result.andThen, setBlock]
    · rw [List.length_set]
      obtain ⟨k, hk, e1, e2⟩ := H.all x hx
      have hne : i ≠ k := fun e => h2 x hx (by rw [e1, e])
      exact ⟨k, hk, e1, by rw [ent_ne _ hne]; exact e2⟩
    · rw [List.length_set] at hk
      by_cases hik : i = k
      · subst hik; rw [ent_get i _ hi]
      · rw [ent_ne _ hik]; exact H.non k hk hn
  · have hjl : j < es.toList.length := (List.getElem?_eq_some_iff.1 h2).1
    have hjs : j < es.size := by simpa using hjl
    obtain ⟨_, ej⟩ := List.getElem?_eq_some_iff.1 h2
    have hsub : (es.eraseIdxIfInBounds j).toList = es.toList.eraseIdx j := by
      unfold Array.eraseIdxIfInBounds
      rw [dif_pos hjs]
      simp
    have hp := List.pairwise_iff_getElem.1 H.two
    have far : ∀ x ∈ es.toList.eraseIdx j, x ∈ es.toList ∧ x.key ≠ key15 i := by
      intro x hx
      obtain ⟨q, hne, hq⟩ := List.mem_eraseIdx_iff_getElem?.1 hx
      obtain ⟨hql, eq⟩ := List.getElem?_eq_some_iff.1 hq
      refine ⟨List.mem_of_getElem? hq, ?_⟩
      rw [← eq, ← h3, ← ej]
      rcases Nat.lt_or_gt_of_ne hne with q2 | q2
      · exact hp q j hql hjl q2
      · exact fun e => hp j q hjl hql q2 e.symm
    refine ⟨setBlock w M (.map (es.eraseIdxIfInBounds j) clock), ?_, ⟨_, _, heap_setBlock_same hb _, fun x hx => ?_, ?_, fun k hk hn => ?_⟩, kp _⟩
    · intro ty; simp [Builtin.delete_, run_underlying und_map15, MapKept.run_getObj_map hb, run_checkKey und_int15 (isKey15 i), run_findKey und_int15 h1, MapKept.run_setObj_map _ hb, Result.andThen, setBlock]
    · rw [hsub] at hx
      rw [List.length_set]
      obtain ⟨hx', hne⟩ := far x hx
      obtain ⟨k, hk, e1, e2⟩ := H.all x hx'
      have hik : i ≠ k := fun e => hne (by rw [e1, e])
      exact ⟨k, hk, e1, by rw [ent_ne _ hik]; exact e2⟩
    · rw [hsub]
      exact H.two.sublist (List.eraseIdx_sublist _ _)
    · rw [List.length_set] at hk
      rw [hsub] at hn
      by_cases hik : i = k
      · subst hik; rw [ent_get i _ hi]
      · rw [ent_ne _ hik]
        refine H.non k hk (fun e he => ?_)
        obtain ⟨q, hq, eq⟩ := List.getElem_of_mem he
        by_cases hqj : q = j
        · subst hqj
          rw [← eq, ej, h3]
          exact fun e => hik (key15_inj e)
        · exact hn e (List.mem_eraseIdx_iff_getElem?.2 ⟨q, hqj, by rw [List.getElem?_eq_getElem hq, eq]⟩)
/-! Whether a block is noughts. -/
theorem plainU8' : Tryd.prog.plainKey 5 = true := by kernel_rfl
theorem cellsU8'' : Tryd.prog.cellsOf 5 = 1 := by kernel_rfl
theorem und_blk15 : Tryd.prog.underlying 100 = some (.array 128 5) := by kernel_rfl
theorem und_byte15 : Tryd.prog.underlying 5 = some (.int .u8) := by kernel_rfl
theorem b8_get (l : List Nat) (j : Nat) (hj : j < l.length) : (b8 l).toArray[j]? = some (.int .u8 ((l.getD j 0 : Nat) : Int)) := by
  simp [b8, List.getD, hj]
theorem eq_items15 (f : List Nat) (hf : f.length = 128) (W : World) : ∀ is : List Nat, (∀ i ∈ is, i < 128) → (Op.eqItems 9999 5 1 (b8 f).toArray (b8 zr15).toArray is).run Tryd.prog W = .ok (is.all (fun i => f.getD i 0 == 0)) W := by
  intro is
  induction is with
  | nil => intro _; rfl
  | cons j is ih =>
    intro h
    have hj := h j (by simp)
    have p1 : (part 5 (b8 f).toArray (j * 1)).run Tryd.prog W = .ok (.int .u8 ((f.getD j 0 : Nat) : Int)) W := run_part_plain W plainU8' (by rw [Nat.mul_one]; exact b8_get f j (by omega))
    have p2 : (part 5 (b8 zr15).toArray (j * 1)).run Tryd.prog W = .ok (.int .u8 0) W := run_part_plain W plainU8' (by
      rw [Nat.mul_one, b8_get zr15 j (by rw [zr_len]; exact hj), zr_get]
      rfl)
    have p3 : (Op.equalIn 9999 5 (.int .u8 ((f.getD j 0 : Nat) : Int)) (.int .u8 0)).run Tryd.prog W = .ok (((f.getD j 0 : Nat) : Int) == 0) W := run_equalIn_int W 9998 5 .u8 .u8 _ _ und_byte15
    have ih2 := ih (fun i hi => h i (by simp [hi]))
    have e : (((f.getD j 0 : Nat) : Int) == 0) = (f.getD j 0 == 0) := by
      rw [Bool.eq_iff_iff, beq_iff_eq, beq_iff_eq]; omega
    simp only [Op.eqItems, Sem.run_bind, p1, p2, p3, Result.andThen_ok, List.all_cons, e]
    cases hz : (f.getD j 0 == 0)
    · rfl
    · simpa using ih2
theorem eq_zero15 (f : List Nat) (hf : f.length = 128) (W : World) : (Op.equalIn 10000 100 (bkV f) (bkV zr15)).run Tryd.prog W = .ok (decide (f = zr15)) W := by
  obtain ⟨i0, hi⟩ : ∃ i, Tryd.prog.info? 5 = some i := by
    have h : (Tryd.prog.info? 5).isSome = true := by kernel_rfl
    exact Option.isSome_iff_exists.1 h
  have h := run_equalIn_array W 9999 (b8 f).toArray (b8 zr15).toArray und_blk15 hi
  rw [cellsU8'', eq_items15 f hf W _ (fun i hi => List.mem_range.1 hi)] at h
  have e : (List.range 128).all (fun i => f.getD i 0 == 0) = decide (f = zr15) := by
    rw [Bool.eq_iff_iff, List.all_eq_true, decide_eq_true_iff]
    constructor
    · intro h
      apply List.ext_getElem
      · rw [hf, zr_len]
      · intro k h1 h2
        have h3 := h k (List.mem_range.2 (by omega))
        rw [beq_iff_eq] at h3
        have e : f.getD k 0 = f[k] := by rw [List.getD_eq_getElem?_getD, List.getElem?_eq_getElem h1]; rfl
        have e2 : zr15.getD k 0 = zr15[k] := by rw [List.getD_eq_getElem?_getD, List.getElem?_eq_getElem h2]; rfl
        rw [← e, ← e2, h3, zr_get]
    · intro h i hi
      rw [h, zr_get]
      rfl
  rw [e] at h
  exact h
end Go.Proofs.YtkbpcmjdfaokhaaDoor
