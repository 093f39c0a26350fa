/-
  Texts of this proof, joined: DqA.
-/
import Derived.Test.YthnpdcblfocemaaGreatDoorSP00
import Derived.Test.YthnpdcblfocemaaGreatDoorSP01
import Derived.MapKept
import Derived.ChangeMaps5
set_option linter.unusedVariables false
set_option linter.unusedSimpArgs false
namespace Go.Proofs.YthnpdcblfocemaaGreatDoor
open Go.RowKit Go.MapKept Go.ChangeMaps

def zr15 : List Nat := List.replicate 128 0
theorem zr_len : zr15.length = 128 := by unfold zr15; rw [List.length_replicate]
theorem zr_get (j : Nat) : zr15.getD j 0 = 0 := by
  unfold zr15
  rw [List.getD_eq_getElem?_getD, List.getElem?_replicate]
  split <;> rfl
def bkV (b : List Nat) : Value := .agg (b8 b).toArray
def key15 (i : Nat) : Value := .int .i64 (i : Int)
theorem key15_inj {i j : Nat} (h : key15 i = key15 j) : i = j := by
  unfold key15 at h
  injection h with _ h
  omega
structure Ent (es : Array MapEntry) (bl : List (List Nat)) : Prop where
  all : ∀ e ∈ es.toList, ∃ i, i < bl.length ∧ e.key = key15 i ∧ e.val = bkV (bl.getD i [])
  two : es.toList.Pairwise fun x y => x.key ≠ y.key
  non : ∀ i, i < bl.length → (∀ e ∈ es.toList, e.key ≠ key15 i) → bl.getD i [] = zr15
def Mz (w : World) (M : Nat) (bl : List (List Nat)) : Prop := ∃ es clock, w.heap[M]? = some (.map es clock) ∧ Ent es bl
theorem Mz.kept {w w' : World} {M : Nat} {bl : List (List Nat)} (h : Mz w M bl) (k : w'.heap[M]? = w.heap[M]?) : Mz w' M bl := by
  obtain ⟨es, c, h1, h2⟩ := h
  exact ⟨es, c, k.trans h1, h2⟩
theorem Mz.made (w : World) (n : Nat) : Mz (w.alloc (.map #[] 0)) w.heap.size (List.replicate n zr15) :=
  ⟨#[], 0, (heap_alloc w _).1, fun e he => by simp at he, by simp, fun i hi _ => by
    rw [List.length_replicate] at hi
    simp [List.getD, hi]⟩
theorem und_map15 : Tryz.prog.underlying 64 = some (.map 3 92) := by kernel_rfl
theorem und_int15 : Tryz.prog.underlying 3 = some (.int .i64) := by kernel_rfl
theorem info_blk15 : (Tryz.prog.info? 92).map (fun i => (i.zero, i.size)) = some (some (bkV zr15), 128) := by kernel_rfl
theorem zero_blk15 (w : World) : (zeroValue 92).run Tryz.prog w = .ok (bkV zr15) w := by
  have h := info_blk15
  cases hq : Tryz.prog.info? 92 with
  | none => rw [hq] at h; simp at h
  | some i =>
    rw [hq] at h
    simp only [Option.map_some, Option.some.injEq, Prod.mk.injEq] at h
    simp [zeroValue, typeInfo, hq, h.1]
theorem isKey15 (i : Nat) : IsKey (.int .i64) (key15 i) := by unfold key15; simp [IsKey]
theorem Ent.keys {es : Array MapEntry} {bl : List (List Nat)} (h : Ent es bl) : ∀ x ∈ es.toList, IsKey (.int .i64) x.key := fun x hx => by
  obtain ⟨i, _, e, _⟩ := h.all x hx
  rw [e]
  exact isKey15 i
theorem map_look {w : World} {M : Nat} {bl : List (List Nat)} (h : Mz w M bl) (i : Nat) (hi : i < bl.length) :
    (Instr.lookup 64 (.map (some M)) (key15 i) false).run Tryz.prog w = .ok (bkV (bl.getD i [])) w := by
  obtain ⟨es, clock, hb, H⟩ := h
  rcases findNow_spec (isKey15 i) es.toList 0 H.keys with ⟨h1, h2⟩ | ⟨j, e0, h1, h2, h3⟩
  · rw [H.non i hi h2]
    simp [Instr.lookup, run_underlying und_map15, MapKept.run_getObj_map hb, run_checkKey und_int15 (isKey15 i), run_findKey und_int15 h1, zero_blk15, Result.andThen] <;> kernel_rfl
  · obtain ⟨i', hi', e1, e2⟩ := H.all e0 (List.mem_of_getElem? h2)
    have : i' = i := key15_inj (e1.symm.trans h3)
    subst this
    simp [Instr.lookup, run_underlying und_map15, MapKept.run_getObj_map hb, run_checkKey und_int15 (isKey15 i'), run_findKey und_int15 h1, Result.andThen, e2]
theorem ent_mem_set {es : Array MapEntry} {bl : List (List Nat)} (H : Ent es bl) {j : Nat} {e0 : MapEntry} (h2 : es.toList[j]? = some e0) (u : MapEntry) {x : MapEntry} (hx : x ∈ es.toList.set j u) : x = u ∨ (x ∈ es.toList ∧ x.key ≠ e0.key) := by
  obtain ⟨k, hk, ex⟩ := List.getElem_of_mem hx
  rw [List.getElem_set] at ex
  split at ex
  · exact Or.inl ex.symm
  · rename_i hne
    have hk' : k < es.toList.length := by simpa using hk
    obtain ⟨hj, ej⟩ := List.getElem?_eq_some_iff.1 h2
    refine Or.inr ⟨ex ▸ List.getElem_mem hk', ?_⟩
    have hp := List.pairwise_iff_getElem.1 H.two
    rw [← ex, ← ej]
    rcases Nat.lt_or_gt_of_ne hne with q | q
    · exact fun e => hp j k hj hk' q e.symm
    · exact hp k j hk' hj q
theorem ent_get {bl : List (List Nat)} (i : Nat) (b : List Nat) (hi : i < bl.length) : (bl.set i b).getD i [] = b := by simp [List.getD, List.getElem?_set, hi]
theorem ent_ne {bl : List (List Nat)} {i k : Nat} (b : List Nat) (h : i ≠ k) : (bl.set i b).getD k [] = bl.getD k [] := by simp [List.getD, List.getElem?_set, h]
theorem map_put {w : World} {M : Nat} {bl : List (List Nat)} (h : Mz w M bl) (i : Nat) (b : List Nat) (hi : i < bl.length) :
    ∃ w', (Instr.mapUpdate 64 (.map (some M)) (key15 i) (bkV b)).run Tryz.prog w = .ok () w' ∧ Mz w' M (bl.set i b) ∧ Kp (fun k => k = M) w w' := by
  obtain ⟨es, clock, hb, H⟩ := h
  have kp : ∀ o, Kp (fun k => k = M) w (setBlock w M o) := fun o => ⟨rfl, rfl, rfl, by simp [setBlock], fun k _ hn => heap_setBlock_other hb o hn⟩
  rcases findNow_spec (isKey15 i) es.toList 0 H.keys with ⟨h1, h2⟩ | ⟨j, e0, h1, h2, h3⟩
  · refine ⟨setBlock w M (.map (es.push ⟨key15 i, bkV b, clock⟩) (clock + 1)), ?_, ⟨_, _, heap_setBlock_same hb _, fun x hx => ?_, ?_, fun k hk hn => ?_⟩, kp _⟩
    · simp [Instr.mapUpdate, run_underlying und_map15, MapKept.run_getObj_map hb, run_checkKey und_int15 (isKey15 i), run_findKey und_int15 h1, MapKept.run_setObj_map _ hb, Result.andThen, setBlock]
    · simp only [Array.toList_push, List.mem_append, List.mem_singleton] at hx
      rw [List.length_set]
      rcases hx with hx | rfl
      · obtain ⟨k, hk, e1, e2⟩ := H.all x hx
        have hne : i ≠ k := fun e => h2 x hx (by rw [e1, e])
        exact ⟨k, hk, e1, by rw [ent_ne b hne]; exact e2⟩
      · exact ⟨i, hi, rfl, by rw [ent_get i b hi]⟩
    · rw [Array.toList_push, List.pairwise_append]
      refine ⟨H.two, by simp, fun x hx y hy => ?_⟩
      rw [List.mem_singleton] at hy
      subst hy
      exact h2 x hx
    · rw [List.length_set] at hk
      have hne : i ≠ k := fun e => hn ⟨key15 i, bkV b, clock⟩ (by simp) (by rw [e])
      rw [ent_ne b hne]
      exact H.non k hk (fun e he => hn e (by simp [he]))
  · have hj : es[j]? = some e0 := by simpa using h2
    have hlist : (es.modify j (fun e' => { e' with key := key15 i, val := bkV b })).toList = es.toList.set j { e0 with key := key15 i, val := bkV b } := by rw [Array.toList_modify, modify_eq_set _ _ _ _ h2]
    have hjl : j < es.toList.length := (List.getElem?_eq_some_iff.1 h2).1
    refine ⟨setBlock w M (.map (es.modify j (fun e' => { e' with key := key15 i, val := bkV b })) clock), ?_, ⟨_, _, heap_setBlock_same hb _, fun x hx => ?_, ?_, fun k hk hn => ?_⟩, kp _⟩
    · simp [Instr.mapUpdate, run_underlying und_map15, MapKept.run_getObj_map hb, run_checkKey und_int15 (isKey15 i), run_findKey und_int15 h1, hj, h3, run_keyThatStays (isKey15 i), MapKept.run_setObj_map _ hb, Result.andThen, setBlock]
    · rw [hlist] at hx
      rw [List.length_set]
      rcases ent_mem_set H h2 _ hx with rfl | ⟨hx', hne⟩
      · exact ⟨i, hi, rfl, by rw [ent_get i b hi]⟩
      · obtain ⟨k, hk, e1, e2⟩ := H.all x hx'
        have hik : i ≠ k := fun e => hne (by rw [h3, e1, e])
        exact ⟨k, hk, e1, by rw [ent_ne b hik]; exact e2⟩
    · rw [hlist]
      have hp := List.pairwise_iff_getElem.1 H.two
      obtain ⟨_, ej⟩ := List.getElem?_eq_some_iff.1 h2
      refine List.pairwise_iff_getElem.2 (fun p q hp1 hq1 hpq => ?_)
      have hp2 : p < es.toList.length := by simpa using hp1
      have hq2 : q < es.toList.length := by simpa using hq1
      rw [List.getElem_set, List.getElem_set]
      split
      · rename_i e
        subst e
        rw [if_neg (by omega)]
        have := hp j q hp2 hq2 hpq
        rw [ej, h3] at this
        exact this
      · split
        · rename_i e2
          subst e2
          have := hp p j hp2 hq2 hpq
          rw [ej, h3] at this
          exact this
        · exact hp p q hp2 hq2 hpq
    · rw [List.length_set] at hk
      rw [hlist] at hn
      have hne : i ≠ k := fun e => hn { e0 with key := key15 i, val := bkV b } (List.mem_iff_getElem.2 ⟨j, by simpa using hjl, by simp⟩) (by rw [e])
      rw [ent_ne b hne]
      refine H.non k hk (fun e he => ?_)
      obtain ⟨q, hq, eq⟩ := List.getElem_of_mem he
      by_cases hqj : j = q
      · subst hqj
        obtain ⟨_, ej⟩ := List.getElem?_eq_some_iff.1 h2
        rw [← eq, ej, h3]
        exact fun e => hne (key15_inj e)
      · refine hn e (List.mem_iff_getElem.2 ⟨q, by simpa using hq, ?_⟩)
        rw [List.getElem_set, if_neg hqj]
        exact eq
theorem map_del {w : World} {M : Nat} {bl : List (List Nat)} (h : Mz w M bl) (i : Nat) (hi : i < bl.length) :
    ∃ w', (∀ ty, (Builtin.delete_ #[64, 3] ty #[.map (some M), key15 i]).run Tryz.prog w = .ok (.tuple #[]) w') ∧ Mz w' M (bl.set i zr15) ∧ Kp (fun k => k = M) w w' := by
  obtain ⟨es, clock, hb, H⟩ := h
  have kp : ∀ o, Kp (fun k => k = M) w (setBlock w M o) := fun o => ⟨rfl, rfl, rfl, by simp [setBlock], fun k _ hn => heap_setBlock_other hb o hn⟩
  rcases findNow_spec (isKey15 i) es.toList 0 H.keys with ⟨h1, h2⟩ | ⟨j, e0, h1, h2, h3⟩
  · refine ⟨setBlock w M (.map es clock), ?_, ⟨_, _, heap_setBlock_same hb _, fun x hx => ?_, H.two, fun k hk hn => ?_⟩, kp _⟩
    · intro ty; simp [Builtin.delete_, run_underlying und_map15, MapKept.run_getObj_map hb, run_checkKey und_int15 (isKey15 i), run_findKey und_int15 h1, MapKept.run_setObj_map _ hb, Result.andThen, setBlock]
    · rw [List.length_set]
      obtain ⟨k, hk, e1, e2⟩ := H.all x hx
      have hne : i ≠ k := fun e => h2 x hx (by rw [e1, e])
      exact ⟨k, hk, e1, by rw [ent_ne _ hne]; exact e2⟩
    · rw [List.length_set] at hk
      by_cases hik : i = k
      · subst hik; rw [ent_get i _ hi]
      · rw [ent_ne _ hik]; exact H.non k hk hn
  · have hjl : j < es.toList.length := (List.getElem?_eq_some_iff.1 h2).1
    have hjs : j < es.size := by simpa using hjl
    obtain ⟨_, ej⟩ := List.getElem?_eq_some_iff.1 h2
    have hsub : (es.eraseIdxIfInBounds j).toList = es.toList.eraseIdx j := by
      unfold Array.eraseIdxIfInBounds
      rw [dif_pos hjs]
      simp
    have hp := List.pairwise_iff_getElem.1 H.two
    have far : ∀ x ∈ es.toList.eraseIdx j, x ∈ es.toList ∧ x.key ≠ key15 i := by
      intro x hx
      obtain ⟨q, hne, hq⟩ := List.mem_eraseIdx_iff_getElem?.1 hx
      obtain ⟨hql, eq⟩ := List.getElem?_eq_some_iff.1 hq
      refine ⟨List.mem_of_getElem? hq, ?_⟩
      rw [← eq, ← h3, ← ej]
      rcases Nat.lt_or_gt_of_ne hne with q2 | q2
      · exact hp q j hql hjl q2
      · exact fun e => hp j q hjl hql q2 e.symm
    refine ⟨setBlock w M (.map (es.eraseIdxIfInBounds j) clock), ?_, ⟨_, _, heap_setBlock_same hb _, fun x hx => ?_, ?_, fun k hk hn => ?_⟩, kp _⟩
    · intro ty; simp [Builtin.delete_, run_underlying und_map15, MapKept.run_getObj_map hb, run_checkKey und_int15 (isKey15 i), run_findKey und_int15 h1, MapKept.run_setObj_map _ hb, Result.andThen, setBlock]
    · rw [hsub] at hx
      rw [List.length_set]
      obtain ⟨hx', hne⟩ := far x hx
      obtain ⟨k, hk, e1, e2⟩ := H.all x hx'
      have hik : i ≠ k := fun e => hne (by rw [e1, e])
      exact ⟨k, hk, e1, by rw [ent_ne _ hik]; exact e2⟩
    · rw [hsub]
      exact H.two.sublist (List.eraseIdx_sublist _ _)
    · rw [List.length_set] at hk
      rw [hsub] at hn
      by_cases hik : i = k
      · subst hik; rw [ent_get i _ hi]
      · rw [ent_ne _ hik]
        refine H.non k hk (fun e he => ?_)
        obtain ⟨q, hq, eq⟩ := List.getElem_of_mem he
        by_cases hqj : q = j
        · subst hqj
          rw [← eq, ej, h3]
          exact fun e => hik (key15_inj e)
        · exact hn e (List.mem_eraseIdx_iff_getElem?.2 ⟨q, hqj, by rw [List.getElem?_eq_getElem hq, eq]⟩)
theorem plainU8' : Tryz.prog.plainKey 5 = true := by kernel_rfl
theorem cellsU8'' : Tryz.prog.cellsOf 5 = 1 := by kernel_rfl
theorem und_blk15 : Tryz.prog.underlying 92 = some (.array 128 5) := by kernel_rfl
theorem und_byte15 : Tryz.prog.underlying 5 = some (.int .u8) := by kernel_rfl
theorem b8_get (l : List Nat) (j : Nat) (hj : j < l.length) : (b8 l).toArray[j]? = some (.int .u8 ((l.getD j 0 : Nat) : Int)) := by
  simp [b8, List.getD, hj]
theorem eq_items15 (f : List Nat) (hf : f.length = 128) (W : World) : ∀ is : List Nat, (∀ i ∈ is, i < 128) → (Op.eqItems 9999 5 1 (b8 f).toArray (b8 zr15).toArray is).run Tryz.prog W = .ok (is.all (fun i => f.getD i 0 == 0)) W := by
  intro is
  induction is with
  | nil => intro _; rfl
  | cons j is ih =>
    intro h
    have hj := h j (by simp)
    have p1 : (part 5 (b8 f).toArray (j * 1)).run Tryz.prog W = .ok (.int .u8 ((f.getD j 0 : Nat) : Int)) W := run_part_plain W plainU8' (by rw [Nat.mul_one]; exact b8_get f j (by omega))
    have p2 : (part 5 (b8 zr15).toArray (j * 1)).run Tryz.prog W = .ok (.int .u8 0) W := run_part_plain W plainU8' (by
      rw [Nat.mul_one, b8_get zr15 j (by rw [zr_len]; exact hj), zr_get]
      rfl)
    have p3 : (Op.equalIn 9999 5 (.int .u8 ((f.getD j 0 : Nat) : Int)) (.int .u8 0)).run Tryz.prog W = .ok (((f.getD j 0 : Nat) : Int) == 0) W := run_equalIn_int W 9998 5 .u8 .u8 _ _ und_byte15
    have ih2 := ih (fun i hi => h i (by simp [hi]))
    have e : (((f.getD j 0 : Nat) : Int) == 0) = (f.getD j 0 == 0) := by
      rw [Bool.eq_iff_iff, beq_iff_eq, beq_iff_eq]; omega
    simp only [Op.eqItems, Sem.run_bind, p1, p2, p3, Result.andThen_ok, List.all_cons, e]
    cases hz : (f.getD j 0 == 0)
    · rfl
    · simpa using ih2
theorem eq_zero15 (f : List Nat) (hf : f.length = 128) (W : World) : (Op.equalIn 10000 92 (bkV f) (bkV zr15)).run Tryz.prog W = .ok (decide (f = zr15)) W := by
  obtain ⟨i0, hi⟩ : ∃ i, Tryz.prog.info? 5 = some i := by
    have h : (Tryz.prog.info? 5).isSome = true := by kernel_rfl
    exact Option.isSome_iff_exists.1 h
  have h := run_equalIn_array W 9999 (b8 f).toArray (b8 zr15).toArray und_blk15 hi
  rw [cellsU8'', eq_items15 f hf W _ (fun i hi => List.mem_range.1 hi)] at h
  have e : (List.range 128).all (fun i => f.getD i 0 == 0) = decide (f = zr15) := by
    rw [Bool.eq_iff_iff, List.all_eq_true, decide_eq_true_iff]
    constructor
    · intro h
      apply List.ext_getElem
      · rw [hf, zr_len]
      · intro k h1 h2
        have h3 := h k (List.mem_range.2 (by omega))
        rw [beq_iff_eq] at h3
        have e : f.getD k 0 = f[k] := by rw [List.getD_eq_getElem?_getD, List.getElem?_eq_getElem h1]; rfl
        have e2 : zr15.getD k 0 = zr15[k] := by rw [List.getD_eq_getElem?_getD, List.getElem?_eq_getElem h2]; rfl
        rw [← e, ← e2, h3, zr_get]
    · intro h i hi
      rw [h, zr_get]
      rfl
  rw [e] at h
  exact h
end Go.Proofs.YthnpdcblfocemaaGreatDoor
