/-
  Texts of this proof, joined: DqB SqA RgLaw.
-/
import Derived.Test.YthnpdcblfocemaaGreatDoorSP00
import Derived.Test.YthnpdcblfocemaaGreatDoorSP01
import Derived.Test.YthnpdcblfocemaaGreatDoorSP04
import Derived.Test.YthnpdcblfocemaaGreatDoorSP19
import Derived.Deep.WholeRow
import Derived.Deep.MidRow
import Derived.Laws.CopyOwn
import Derived.RangeFuncNested
import Derived.RangeFuncLeaves
set_option linter.unusedVariables false
set_option linter.unusedSimpArgs false
namespace Go.Proofs.YthnpdcblfocemaaGreatDoor
open Go.RowKit

def Vb (w : World) (g : Nat) (t : TypeId) (xs : List Value) : Prop := w.heap[g]? = some (.cells xs.toArray t (0, 0))
theorem Vb.lt {w : World} {g : Nat} {t : TypeId} {xs : List Value} (h : Vb w g t xs) : g < w.heap.size := (Array.getElem?_eq_some_iff.1 h).1
theorem Vb.cell {w : World} {g : Nat} {t : TypeId} {xs : List Value} (h : Vb w g t xs) (j : Nat) (v : Value) (hj : xs[j]? = some v) : w.cell? ⟨g, j, none⟩ = some v := by
  rw [cell_of_row w g j _ _ _ h]
  simpa using hj
theorem Vb.fro {w : World} {g : Nat} {t : TypeId} {xs : List Value} (h : Vb w g t xs) (j : Nat) : w.frozen? ⟨g, j, none⟩ = false := by
  unfold Vb at h
  simp [World.frozen?, h]
theorem Vb.range {w : World} {g : Nat} {t : TypeId} {xs : List Value} (h : Vb w g t xs) (o : Nat) (cs : List Value) (hc : ∀ j v, cs[j]? = some v → xs[o + j]? = some v) : w.rangeAt g o cs := fun j v hv => h.cell _ v (hc j v hv)
theorem Vb.all {w : World} {g : Nat} {t : TypeId} {xs : List Value} (h : Vb w g t xs) : w.rangeAt g 0 xs := h.range 0 xs (fun j v hv => by rw [Nat.zero_add]; exact hv)
theorem Vb.kept {w w' : World} {g : Nat} {t : TypeId} {xs : List Value} (h : Vb w g t xs) (k : w'.heap[g]? = w.heap[g]?) : Vb w' g t xs := k.trans h
theorem Vb.later {w w' : World} {g : Nat} {t : TypeId} {xs : List Value} (h : Vb w g t xs) (k : Below w.heap.size w w') : Vb w' g t xs := (k.block g h.lt).trans h
theorem Vb.new (w : World) (t : TypeId) (xs : List Value) : Vb (w.alloc (.cells xs.toArray t)) w.heap.size t xs := heap_alloc_last w _
theorem Vb.old {w : World} {g : Nat} {t : TypeId} {xs : List Value} (h : Vb w g t xs) (o : Obj) : Vb (w.alloc o) g t xs := (Below.heap_alloc _ _ _ h.lt).trans h
theorem alV {ops : Array Oper} {rest : List Oper} {o : Oper} {a : Act} {w : World} {Q : Exit → Act → World → Prop} (hgd : o.guard = none) (T : TypeId) (xs : List Value)
    (hz : ∀ w, (zeroValue T).run Tryz.prog w = .ok (.agg xs.toArray) w) (ho : o.op = .alloc T)
    (h : ∀ w', Vb w' w.heap.size T xs → Below w.heap.size w w' → w'.heap.size = w.heap.size + 1 → wpList Tryz.prog ops Q rest (a.put o.dst (.pointer (some ⟨w.heap.size, 0, none⟩))) w') : wpList Tryz.prog ops Q (o :: rest) a w :=
  wpList_plain hgd fun K hK => by
    have hrun : (Instr.alloc T true (.tuple #[])).run Tryz.prog w = .ok (.pointer (some ⟨w.heap.size, 0, none⟩)) (w.alloc (.cells xs.toArray T)) := by
      simp [Instr.alloc, hz, newVar, Value.cells, go_sem, Result.andThen]
    unfold Oper.wp
    simp [execOp, ho, hrun, Result.andThen]
    exact hK _ _ (h _ (Vb.new w T xs) (bel1 w _) (by simp))
theorem stV {ops : Array Oper} {rest : List Oper} {o : Oper} {a : Act} {w : World} {Q : Exit → Act → World → Prop} (hgd : o.guard = none) (T : TypeId) (x y : Operand) (ho : o.op = .store T x y)
    (g : Nat) (xs ys : List Value) (hx : a.eval x = .pointer (some ⟨g, 0, none⟩)) (hy : a.eval y = .agg ys.toArray) (hV : Vb w g T xs) (hn : ys.length = xs.length) (hi : (Tryz.prog.info? T).map (·.size) = some ys.length) (h1 : ∀ v ∈ ys, v.oneCell' = true)
    (h : ∀ w', Vb w' g T ys → Kp (fun k => k = g) w w' → w'.heap.size = w.heap.size → wpList Tryz.prog ops Q rest (a.put o.dst undef) w') : wpList Tryz.prog ops Q (o :: rest) a w :=
  wpList_plain hgd fun _ hK => wp_store_row T x y ho g ys.toArray hx hy T xs.toArray hV (by simpa using hi) (by simpa using hn.symm) (all_oneCell_toArray h1)
    (hK _ _ (h _ (setRow_heap _ _ _ _ _ _ hV) ⟨rfl, rfl, rfl, by simp [World.setRow], fun k _ hk => setRow_other _ _ _ _ hk⟩ (by simp [World.setRow])))
theorem sz_blk15 : (Tryz.prog.info? 92).map (·.size) = some 128 := by kernel_rfl
theorem sz_byte15 : (Tryz.prog.info? 5).map (·.size) = some 1 := by kernel_rfl
theorem und_bys15 : Tryz.prog.underlying 30 = some (.slice 5) := by kernel_rfl
theorem b8_cell (b : List Nat) (j : Nat) (hj : j < b.length) : (b8 b)[j]? = some (.int .u8 ((b.getD j 0 : Nat) : Int)) := by
  simp [b8, List.getD, hj]
theorem ldB {ops : Array Oper} {rest : List Oper} {o : Oper} {a : Act} {w : World} {Q : Exit → Act → World → Prop} (hgd : o.guard = none) (x : Operand) (ho : o.op = .load 92 x)
    (g q : Nat) (b : List Nat) (hx : a.eval x = .pointer (some ⟨g, q, none⟩)) (hr : w.rangeAt g q (b8 b)) (hb : b.length = 128)
    (h : wpList Tryz.prog ops Q rest (a.put o.dst (.agg (b8 b).toArray)) w) : wpList Tryz.prog ops Q (o :: rest) a w :=
  wpList_load_mid hgd 92 x ho g q hx (b8 b) _ hr und_blk15 rfl (by rw [b8_len, hb]; exact sz_blk15) h
theorem Vb.bs {w : World} {g : Nat} {t : TypeId} {xs : List Value} (h : Vb w g t xs) (q : Nat) (b : List Nat) (hc : ∀ j, j < b.length → xs[q + j]? = some (.int .u8 ((b.getD j 0 : Nat) : Int))) (cap : Nat) (h1 : b.length ≤ cap) (h2 : cap ≤ maxLen) : Bs w (.slice (some ⟨g, q, none⟩) b.length cap) b :=
  ⟨_, cap, g, q, rfl, h1, ⟨h2, fun e => by cases e⟩, fun _ => rfl, fun k hk => h.cell _ _ (hc k hk)⟩
theorem splice_b8 (c b : List Nat) (n : Nat) (hn : n ≤ b.length) (hc : b.length = c.length) : splice (b8 c) 0 (b8 (b.take n)) = b8 (torn n b c) := by
  unfold splice torn
  rw [b8_app, b8_len, List.length_take, Nat.min_eq_left hn]
  simp [b8, List.map_drop]
theorem cp_run (w : World) (ty : TypeId) (g off : Nat) (xs : List Value) (t : TypeId) (hV : Vb w g t xs) (b : List Nat) (n dl dc nb sc : Nat) (hnb : b.length = nb) (hn : n = Nat.min nb dl) (dp sp : Option Addr) (hdp : 0 < n → dp = some ⟨g, off, none⟩)
    (hB : Bs w (.slice sp nb sc) b) (hfit : off + n ≤ xs.length) :
    ∃ w', (Builtin.copy_ #[30, 30] ty #[.slice dp dl dc, .slice sp nb sc]).run Tryz.prog w = .ok (goInt n) w' ∧ Vb w' g t (splice xs off (b8 (b.take n))) ∧ Kp (fun k => k = g) w w' ∧ w'.heap.size = w.heap.size := by
  subst hnb
  have hnl : n ≤ b.length := by rw [hn]; exact Nat.min_le_left _ _
  have hl : (b8 (b.take n)).length = n := by rw [b8_len, List.length_take]; omega
  by_cases h0 : n = 0
  · subst h0
    refine ⟨w, run_copy_none (P := Tryz.prog) w 30 30 ty 5 dp sp dl dc b.length sc und_bys15 sz_byte15 hn.symm, ?_, Kp.refl _ _, rfl⟩
    have e : splice xs off (b8 (b.take 0)) = xs := by simp [splice, b8]
    rw [e]
    exact hV
  · obtain ⟨q, o2, e, hcel⟩ := hB.cel 0 (by omega)
    obtain rfl := hdp (by omega)
    subst e
    have hr := run_copy_row (P := Tryz.prog) w 30 30 ty 5 g off dl dc ⟨q, o2, none⟩ b.length sc xs.toArray t (b8 (b.take n)) und_bys15 sz_byte15 hV (by rw [hl]; exact hn) (fun j v hv => by
      have hj : j < n := by have := (List.getElem?_eq_some_iff.1 hv).1; omega
      obtain ⟨q', o', e', hcj⟩ := hB.cel j (by omega)
      cases e'
      rw [Addr.add_mid, hcj]
      rw [b8_cell _ j (by rw [List.length_take]; omega)] at hv
      rw [← hv]
      have e2 : (b.take n).getD j 0 = b.getD j 0 := by simp [List.getD, List.getElem?_take, hj]
      rw [e2]) (by rw [hl]; simpa using hfit) (b8_one _)
    rw [hl] at hr
    refine ⟨_, hr, ?_, ⟨rfl, rfl, rfl, by simp [World.setRow], fun k _ hk => setRow_other _ _ _ _ hk⟩, by simp [World.setRow]⟩
    have e : (xs.toArray.toList.take off ++ b8 (b.take n) ++ xs.toArray.toList.drop (off + n)) = splice xs off (b8 (b.take n)) := by simp [splice, hl]
    rw [e]
    exact setRow_heap _ _ _ _ _ _ hV
theorem cpW {ops : Array Oper} {rest : List Oper} {o : Oper} {a : Act} {w : World} {Q : Exit → Act → World → Prop} (hgd : o.guard = none) (d s : Operand)
    (ho : o.op = .call { callee := .builtin .copy, args := #[d, s], argTypes := #[30, 30] })
    (g off : Nat) (xs : List Value) (t : TypeId) (b : List Nat) (n dl dc nb sc : Nat) (dp sp : Option Addr) (hd : a.eval d = .slice dp dl dc) (hs : a.eval s = .slice sp nb sc) (hV : Vb w g t xs) (hnb : b.length = nb) (hn : n = Nat.min nb dl) (hdp : 0 < n → dp = some ⟨g, off, none⟩)
    (hB : Bs w (.slice sp nb sc) b) (hfit : off + n ≤ xs.length)
    (h : ∀ w', Vb w' g t (splice xs off (b8 (b.take n))) → Kp (fun k => k = g) w w' → w'.heap.size = w.heap.size → wpList Tryz.prog ops Q rest (a.put o.dst (goInt n)) w') : wpList Tryz.prog ops Q (o :: rest) a w :=
  wpList_plain hgd fun _ hK => by
    obtain ⟨w', hr, h1, h2, h3⟩ := cp_run w o.type g off xs t hV b n dl dc nb sc hnb hn dp sp hdp hB hfit
    unfold Oper.wp
    simp [execOp, ho, resolve, invoke, builtin, hd, hs, hr, Result.andThen]
    exact hK _ _ (h w' h1 h2 h3)
theorem cpS {ops : Array Oper} {o : Oper} {a : Act} {w : World} {K : Act → World → Prop} {Q : Exit → Act → World → Prop} {E : Prop} (hgd : o.guard = none) (d s : Operand)
    (ho : o.op = .call { callee := .builtin .copy, args := #[d, s], argTypes := #[30, 30] })
    (g off : Nat) (xs : List Value) (t : TypeId) (b : List Nat) (n dl dc nb sc : Nat) (dp sp : Option Addr) (hd : a.eval d = .slice dp dl dc) (hs : a.eval s = .slice sp nb sc) (hV : Vb w g t xs) (hnb : b.length = nb) (hn : n = Nat.min nb dl) (hdp : 0 < n → dp = some ⟨g, off, none⟩)
    (hB : Bs w (.slice sp nb sc) b) (hfit : off + n ≤ xs.length)
    (h : ∀ w', Vb w' g t (splice xs off (b8 (b.take n))) → Kp (fun k => k = g) w w' → w'.heap.size = w.heap.size → K (a.put o.dst (goInt n)) w') : if Region.wanted o (yielded ops a.tmps) = true then Oper.wp Tryz.prog o a w K Q else E := by
  have hw : Region.wanted o (yielded ops a.tmps) = true := by simp [Region.wanted, hgd]
  rw [if_pos hw]
  obtain ⟨w', hr, h1, h2, h3⟩ := cp_run w o.type g off xs t hV b n dl dc nb sc hnb hn dp sp hdp hB hfit
  unfold Oper.wp
  simp [execOp, ho, resolve, invoke, builtin, hd, hs, hr, Result.andThen]
  exact h w' h1 h2 h3
theorem res_blk15 {fn : Func} {p : Tmp} (hr : fn.results = #[.cell p 92]) (tmps : Array Value) {w : World} {g : Nat} {b : List Nat} (h : Vb w g 92 (b8 b)) (hb : b.length = 128) (hp : tmps.getD p undef = .pointer (some ⟨g, 0, none⟩)) :
    (results fn tmps).run Tryz.prog w = .ok (.agg (b8 b).toArray) w :=
  results_cell_row hr tmps w g 92 (b8 b).toArray (0, 0) _ hp h und_blk15 rfl (by
    have e : (b8 b).toArray.size = 128 := by rw [List.size_toArray, b8_len, hb]
    rw [e]; exact sz_blk15)
theorem torn_all {t a : List Nat} (ht : t.length = 128) (ha : a.length = 128) : torn 128 t a = t := by
  unfold torn
  rw [List.take_of_length_le (by omega), List.drop_of_length_le (by omega), List.append_nil]
theorem torn_none (t a : List Nat) : torn 0 t a = a := by unfold torn; simp
theorem torn_len {n : Nat} {t a : List Nat} (hn : n ≤ 128) (ht : t.length = 128) (ha : a.length = 128) : (torn n t a).length = 128 := by
  unfold torn
  rw [List.length_append, List.length_take, List.length_drop]
  omega
set_option maxRecDepth 100000 in
set_option maxHeartbeats 4000000 in
theorem outcome15 (f : Int × Int) (ahead text : List Nat) (ha : ahead.length = 128) (ht : text.length = 128) (w : World) :
    Calls Tryz.prog 43 #[.agg #[.int .i64 f.1, .int .i64 f.2], .agg (b8 ahead).toArray, .agg (b8 text).toArray] w fun e w' => e = .returned (.agg (b8 (torn (fn f) text ahead)).toArray) ∧ Below w.heap.size w w' := by
  obtain ⟨k, n⟩ := f
  obtain ⟨fk, hfk⟩ : ∃ fk, fn (k, n) = fk := ⟨_, rfl⟩
  have HF : Hid (fn (k, n) = fk) := hfk
  rw [hfk]
  clear hfk
  dsimp only
  obtain ⟨wA, hwA⟩ : ∃ wA, wA = ((w.alloc (.cells #[.int .i64 k, .int .i64 n] 98)).alloc (.cells (b8 ahead).toArray 92)).alloc (.cells (b8 text).toArray 92) := ⟨_, rfl⟩
  have hsA : wA.heap.size = w.heap.size + 1 + 1 + 1 := by rw [hwA]; simp
  have c0 : wA.cell? ⟨w.heap.size, 0, none⟩ = some (.int .i64 k) := by rw [hwA]; simp [go_sem]
  have c1 : wA.cell? ⟨w.heap.size, 1, none⟩ = some (.int .i64 n) := by rw [hwA]; simp [go_sem]
  have HC : Hid (wA.cell? ⟨w.heap.size, 0, none⟩ = some (.int .i64 k) ∧ wA.cell? ⟨w.heap.size, 1, none⟩ = some (.int .i64 n)) := ⟨c0, c1⟩
  clear c0 c1
  have hz : ∀ W, (zeroValue 92).run Tryz.prog W = .ok (.agg (b8 zr15).toArray) W := fun W => zero_blk15 W
  have V1 : Vb wA (w.heap.size + 1) 92 (b8 ahead) := by rw [hwA]; exact (by simpa using Vb.old (Vb.new (w.alloc (.cells #[.int .i64 k, .int .i64 n] 98)) 92 (b8 ahead)) (.cells (b8 text).toArray 92))
  have V2 : Vb wA (w.heap.size + 1 + 1) 92 (b8 text) := by rw [hwA]; exact (by simpa using Vb.new ((w.alloc (.cells #[.int .i64 k, .int .i64 n] 98)).alloc (.cells (b8 ahead).toArray 92)) 92 (b8 text))
  have HV : Hid (Vb wA (w.heap.size + 1) 92 (b8 ahead) ∧ Vb wA (w.heap.size + 1 + 1) 92 (b8 text) ∧ Below w.heap.size w wA) := ⟨V1, V2, by rw [hwA]; exact ((bel1 _ _).alloc (by simp) _).alloc (by simp; omega) _⟩
  clear V1 V2
  have HL : Hid (ahead.length = 128 ∧ text.length = 128) := ⟨ha, ht⟩
  clear ha ht
  go_enter Tryz.func43, Tryz.ntmps43
  go_upto_region 1 with (refine alV rfl 92 (b8 zr15) hz rfl ?_; rw [← hwA]; intro wB hV3 hB3 hS3; rw [hsA] at hV3 hB3 hS3; rw [hsA])
  clear hwA
  have c0 := hid5 ((hB3.cell (p := ⟨w.heap.size, 0, none⟩) (by dsimp only; omega)).trans HC.out.1)
  have c1 := hid5 ((hB3.cell (p := ⟨w.heap.size, 1, none⟩) (by dsimp only; omega)).trans HC.out.2)
  have HW : Hid (Vb wB (w.heap.size + 1) 92 (b8 ahead) ∧ Vb wB (w.heap.size + 1 + 1) 92 (b8 text) ∧ Vb wB (w.heap.size + 1 + 1 + 1) 92 (b8 zr15) ∧ Below w.heap.size w wB) :=
    ⟨HV.out.1.kept (hB3.block _ (by omega)), HV.out.2.1.kept (hB3.block _ (by omega)), hV3, HV.out.2.2.trans ⟨hB3.os, hB3.tape, hB3.output, hB3.size, fun q hq => hB3.block q (by omega)⟩⟩
  clear HV HC hV3 hB3 hS3 hsA hz
  have c0 := c0.out
  have c1 := c1.out
  by_cases q1 : k = 1
  · subst q1
    go_wp2_with (first
      | (refine ldB rfl _ rfl (w.heap.size + 1 + 1) 0 text rfl HW.out.2.1.all HL.out.2 ?_)
      | (refine stV rfl 92 _ _ rfl (w.heap.size + 1 + 1 + 1) (b8 zr15) (b8 text) rfl rfl HW.out.2.2.1 (by rw [b8_len, b8_len, HL.out.2, zr_len]) (by rw [b8_len, HL.out.2]; exact sz_blk15) (b8_one text) ?_; intro wC hVC hKC hSC))
    have e : fk = 128 := by have := HF.out; unfold fn at this; rw [if_pos rfl] at this; omega
    rw [e, torn_all HL.out.2 HL.out.1]
    exact bodyPost_ret (res_blk15 rfl _ hVC HL.out.2 rfl) rfl ⟨rfl, hKC.next HW.out.2.2.2 (fun i hi => by omega) HW.out.2.2.2.size⟩
  · by_cases q2 : k = 2
    · subst q2
      have HFn : Hid (fk = min n.toNat 128) := by have := HF.out; unfold fn at this; rw [if_neg (by simp), if_pos rfl] at this; exact this.symm
      have HWd : Hid (Vb wB.drew (w.heap.size + 1) 92 (b8 ahead) ∧ Vb wB.drew (w.heap.size + 1 + 1 + 1) 92 (b8 zr15) ∧ Below w.heap.size w wB.drew ∧ Bs wB.drew (.slice (some ⟨w.heap.size + 1 + 1, 0, none⟩) 128 128) text) :=
        ⟨HW.out.1.kept rfl, HW.out.2.2.1.kept rfl, HW.out.2.2.2.drew, by
          have h := (HW.out.2.1.kept (w' := wB.drew) rfl).bs 0 text (fun j hj => by rw [Nat.zero_add]; exact b8_cell _ _ hj) 128 (by have := HL.out.2; omega) (by unfold maxLen; omega)
          rw [HL.out.2] at h
          exact h⟩
      clear HW
      by_cases q3 : n < 0
      · have HM : Hid (fk = 0) := by have := HFn.out; show fk = 0; omega
        clear HFn
        go_upto_region 6 with fail
        refine wp_region_held_drew (S := fun _ => True) (by kernel_rfl) trivial (fun HS => ?_)
        generalize wB.drew = wD at *
        refine wpAnyH_take (i := 0) (v := ?v1) rfl (by kernel_rfl) (by kernel_rfl) (by kernel_rfl) (fun _ _ _ h => h) (Or.inl ⟨by kernel_rfl, ?h1⟩) HS ?r1
        case h1 => (rintro w _; go_simp) <;> with_reducible rfl
        try simp only [Act.put, List.getElem_toArray, List.getElem_cons_succ, List.getElem_cons_zero, List.setIfInBounds_toArray, List.set_cons_zero, List.set_cons_succ]
        refine wpAnyH_take (i := 1) (v := ?v2) rfl (by kernel_rfl) (by kernel_rfl) (by kernel_rfl) (fun _ _ _ h => h) (Or.inl ⟨by kernel_rfl, ?h2⟩) HS ?r2
        case h2 => (rintro w _; go_simp) <;> with_reducible rfl
        try simp only [Act.put, List.getElem_toArray, List.getElem_cons_succ, List.getElem_cons_zero, List.setIfInBounds_toArray, List.set_cons_zero, List.set_cons_succ]
        refine wpAnyH_take (i := 2) (v := ?v3) rfl (by kernel_rfl) (by kernel_rfl) (by kernel_rfl) (fun _ _ _ h => h) (Or.inl ⟨by kernel_rfl, ?h3⟩) HS ?r3
        case h3 => (rintro w _; go_simp) <;> with_reducible rfl
        try simp only [Act.put, List.getElem_toArray, List.getElem_cons_succ, List.getElem_cons_zero, List.setIfInBounds_toArray, List.set_cons_zero, List.set_cons_succ]
        refine wpAnyH_ready (rs := [3]) (by kernel_rfl) (by simp) ?_
        refine AllReadyH.cons rfl (fun K hK => ?_) AllReadyH.nil
        refine cpS rfl _ _ rfl (w.heap.size + 1) 0 (b8 ahead) 92 text 0 0 128 128 128 _ _ rfl rfl HWd.out.1 HL.out.2 rfl (fun _ => rfl) HWd.out.2.2.2 (by rw [b8_len, HL.out.1]; omega) ?_
        intro wE hE hKE hSE
        rw [splice_b8 _ _ _ (by rw [HL.out.2]; omega) (by rw [HL.out.1, HL.out.2])] at hE
        have HWe : Hid (Vb wE (w.heap.size + 1) 92 (b8 (torn 0 text ahead)) ∧ Vb wE (w.heap.size + 1 + 1 + 1) 92 (b8 zr15) ∧ Below w.heap.size w wE) := ⟨hE, HWd.out.2.1.kept (hKE.block _ HWd.out.2.1.lt (by omega)), hKE.next HWd.out.2.2.1 (fun i hi => by omega) HWd.out.2.2.1.size⟩
        have HTl : Hid ((torn 0 text ahead).length = 128) := torn_len (by omega) HL.out.2 HL.out.1
        clear hE hKE hSE HWd
        refine hK.out _ _ trivial (fun HS => ?_)
        clear hK K
        try simp only [Act.put, List.getElem_toArray, List.getElem_cons_succ, List.getElem_cons_zero, List.setIfInBounds_toArray, List.set_cons_zero, List.set_cons_succ]
        refine wpAnyH_done (by kernel_rfl) ?_ _
        go_wp2_with (first
          | (refine ldB rfl _ rfl (w.heap.size + 1) 0 (torn 0 text ahead) rfl HWe.out.1.all HTl.out ?_)
          | (refine stV rfl 92 _ _ rfl (w.heap.size + 1 + 1 + 1) (b8 zr15) (b8 (torn 0 text ahead)) rfl rfl HWe.out.2.1 (by rw [b8_len, b8_len, HTl.out, zr_len]) (by rw [b8_len, HTl.out]; exact sz_blk15) (b8_one _) ?_; intro wC hVC hKC hSC))
        rw [HM.out]
        exact bodyPost_ret (res_blk15 rfl _ hVC HTl.out rfl) rfl ⟨rfl, hKC.next HWe.out.2.2 (fun i hi => by omega) HWe.out.2.2.size⟩
      · obtain ⟨m, rfl⟩ : ∃ m : Nat, n = (m : Int) := ⟨n.toNat, by omega⟩
        by_cases q4 : m ≤ 128
        · have HM : Hid (fk = m ∧ m ≤ 128) := by have := HFn.out; refine ⟨?_, q4⟩; simp at this; omega
          clear HFn
          have q5 : (m : Int) ≤ 128 := by omega
          go_upto_region 6 with fail
          refine wp_region_held_drew (S := fun _ => True) (by kernel_rfl) trivial (fun HS => ?_)
          generalize wB.drew = wD at *
          refine wpAnyH_take (i := 0) (v := ?v4) rfl (by kernel_rfl) (by kernel_rfl) (by kernel_rfl) (fun _ _ _ h => h) (Or.inl ⟨by kernel_rfl, ?h4⟩) HS ?r4
          case h4 => (rintro w _; go_simp) <;> with_reducible rfl
          try simp only [Act.put, List.getElem_toArray, List.getElem_cons_succ, List.getElem_cons_zero, List.setIfInBounds_toArray, List.set_cons_zero, List.set_cons_succ]
          refine wpAnyH_take (i := 1) (v := ?v5) rfl (by kernel_rfl) (by kernel_rfl) (by kernel_rfl) (fun _ _ _ h => h) (Or.inl ⟨by kernel_rfl, ?h5⟩) HS ?r5
          case h5 => (rintro w _; go_simp) <;> with_reducible rfl
          try simp only [Act.put, List.getElem_toArray, List.getElem_cons_succ, List.getElem_cons_zero, List.setIfInBounds_toArray, List.set_cons_zero, List.set_cons_succ]
          refine wpAnyH_take (i := 2) (v := ?v6) rfl (by kernel_rfl) (by kernel_rfl) (by kernel_rfl) (fun _ _ _ h => h) (Or.inl ⟨by kernel_rfl, ?h6⟩) HS ?r6
          case h6 => (rintro w _; go_simp) <;> with_reducible rfl
          try simp only [Act.put, List.getElem_toArray, List.getElem_cons_succ, List.getElem_cons_zero, List.setIfInBounds_toArray, List.set_cons_zero, List.set_cons_succ]
          refine wpAnyH_ready (rs := [3]) (by kernel_rfl) (by simp) ?_
          refine AllReadyH.cons rfl (fun K hK => ?_) AllReadyH.nil
          refine cpS rfl _ _ rfl (w.heap.size + 1) 0 (b8 ahead) 92 text m m 128 128 128 _ _ rfl rfl HWd.out.1 HL.out.2 (Nat.min_eq_right HM.out.2).symm (fun _ => rfl) HWd.out.2.2.2 (by rw [b8_len, HL.out.1]; have := HM.out.2; omega) ?_
          intro wE hE hKE hSE
          rw [splice_b8 _ _ _ (by rw [HL.out.2]; have := HM.out.2; omega) (by rw [HL.out.1, HL.out.2])] at hE
          have HWe : Hid (Vb wE (w.heap.size + 1) 92 (b8 (torn m text ahead)) ∧ Vb wE (w.heap.size + 1 + 1 + 1) 92 (b8 zr15) ∧ Below w.heap.size w wE) := ⟨hE, HWd.out.2.1.kept (hKE.block _ HWd.out.2.1.lt (by omega)), hKE.next HWd.out.2.2.1 (fun i hi => by omega) HWd.out.2.2.1.size⟩
          have HTl : Hid ((torn m text ahead).length = 128) := torn_len (by have := HM.out.2; omega) HL.out.2 HL.out.1
          clear hE hKE hSE HWd
          refine hK.out _ _ trivial (fun HS => ?_)
          clear hK K
          try simp only [Act.put, List.getElem_toArray, List.getElem_cons_succ, List.getElem_cons_zero, List.setIfInBounds_toArray, List.set_cons_zero, List.set_cons_succ]
          refine wpAnyH_done (by kernel_rfl) ?_ _
          go_wp2_with (first
            | (refine ldB rfl _ rfl (w.heap.size + 1) 0 (torn m text ahead) rfl HWe.out.1.all HTl.out ?_)
            | (refine stV rfl 92 _ _ rfl (w.heap.size + 1 + 1 + 1) (b8 zr15) (b8 (torn m text ahead)) rfl rfl HWe.out.2.1 (by rw [b8_len, b8_len, HTl.out, zr_len]) (by rw [b8_len, HTl.out]; exact sz_blk15) (b8_one _) ?_; intro wC hVC hKC hSC))
          rw [HM.out.1]
          exact bodyPost_ret (res_blk15 rfl _ hVC HTl.out rfl) rfl ⟨rfl, hKC.next HWe.out.2.2 (fun i hi => by omega) HWe.out.2.2.size⟩
        · have HM : Hid (fk = 128) := by have := HFn.out; show fk = 128; simp at this; omega
          clear HFn
          have q5 : (128 : Int) < (m : Int) := by omega
          go_upto_region 6 with fail
          refine wp_region_held_drew (S := fun _ => True) (by kernel_rfl) trivial (fun HS => ?_)
          generalize wB.drew = wD at *
          refine wpAnyH_take (i := 0) (v := ?v7) rfl (by kernel_rfl) (by kernel_rfl) (by kernel_rfl) (fun _ _ _ h => h) (Or.inl ⟨by kernel_rfl, ?h7⟩) HS ?r7
          case h7 => (rintro w _; go_simp) <;> with_reducible rfl
          try simp only [Act.put, List.getElem_toArray, List.getElem_cons_succ, List.getElem_cons_zero, List.setIfInBounds_toArray, List.set_cons_zero, List.set_cons_succ]
          refine wpAnyH_take (i := 1) (v := ?v8) rfl (by kernel_rfl) (by kernel_rfl) (by kernel_rfl) (fun _ _ _ h => h) (Or.inl ⟨by kernel_rfl, ?h8⟩) HS ?r8
          case h8 => (rintro w _; go_simp) <;> with_reducible rfl
          try simp only [Act.put, List.getElem_toArray, List.getElem_cons_succ, List.getElem_cons_zero, List.setIfInBounds_toArray, List.set_cons_zero, List.set_cons_succ]
          refine wpAnyH_take (i := 2) (v := ?v9) rfl (by kernel_rfl) (by kernel_rfl) (by kernel_rfl) (fun _ _ _ h => h) (Or.inl ⟨by kernel_rfl, ?h9⟩) HS ?r9
          case h9 => (rintro w _; go_simp) <;> with_reducible rfl
          try simp only [Act.put, List.getElem_toArray, List.getElem_cons_succ, List.getElem_cons_zero, List.setIfInBounds_toArray, List.set_cons_zero, List.set_cons_succ]
          refine wpAnyH_ready (rs := [3]) (by kernel_rfl) (by simp) ?_
          refine AllReadyH.cons rfl (fun K hK => ?_) AllReadyH.nil
          refine cpS rfl _ _ rfl (w.heap.size + 1) 0 (b8 ahead) 92 text 128 128 128 128 128 _ _ rfl rfl HWd.out.1 HL.out.2 rfl (fun _ => rfl) HWd.out.2.2.2 (by rw [b8_len, HL.out.1]; omega) ?_
          intro wE hE hKE hSE
          rw [splice_b8 _ _ _ (by rw [HL.out.2]; omega) (by rw [HL.out.1, HL.out.2])] at hE
          have HWe : Hid (Vb wE (w.heap.size + 1) 92 (b8 (torn 128 text ahead)) ∧ Vb wE (w.heap.size + 1 + 1 + 1) 92 (b8 zr15) ∧ Below w.heap.size w wE) := ⟨hE, HWd.out.2.1.kept (hKE.block _ HWd.out.2.1.lt (by omega)), hKE.next HWd.out.2.2.1 (fun i hi => by omega) HWd.out.2.2.1.size⟩
          have HTl : Hid ((torn 128 text ahead).length = 128) := torn_len (by omega) HL.out.2 HL.out.1
          clear hE hKE hSE HWd
          refine hK.out _ _ trivial (fun HS => ?_)
          clear hK K
          try simp only [Act.put, List.getElem_toArray, List.getElem_cons_succ, List.getElem_cons_zero, List.setIfInBounds_toArray, List.set_cons_zero, List.set_cons_succ]
          refine wpAnyH_done (by kernel_rfl) ?_ _
          go_wp2_with (first
            | (refine ldB rfl _ rfl (w.heap.size + 1) 0 (torn 128 text ahead) rfl HWe.out.1.all HTl.out ?_)
            | (refine stV rfl 92 _ _ rfl (w.heap.size + 1 + 1 + 1) (b8 zr15) (b8 (torn 128 text ahead)) rfl rfl HWe.out.2.1 (by rw [b8_len, b8_len, HTl.out, zr_len]) (by rw [b8_len, HTl.out]; exact sz_blk15) (b8_one _) ?_; intro wC hVC hKC hSC))
          rw [HM.out]
          exact bodyPost_ret (res_blk15 rfl _ hVC HTl.out rfl) rfl ⟨rfl, hKC.next HWe.out.2.2 (fun i hi => by omega) HWe.out.2.2.size⟩
    · go_wp2_with (first
        | (refine ldB rfl _ rfl (w.heap.size + 1) 0 ahead rfl HW.out.1.all HL.out.1 ?_)
        | (refine stV rfl 92 _ _ rfl (w.heap.size + 1 + 1 + 1) (b8 zr15) (b8 ahead) rfl rfl HW.out.2.2.1 (by rw [b8_len, b8_len, HL.out.1, zr_len]) (by rw [b8_len, HL.out.1]; exact sz_blk15) (b8_one ahead) ?_; intro wC hVC hKC hSC))
      have e : fk = 0 := by have := HF.out; unfold fn at this; rw [if_neg (by exact q1), if_neg (by exact q2)] at this; omega
      rw [e, torn_none]
      exact bodyPost_ret (res_blk15 rfl _ hVC HL.out.1 rfl) rfl ⟨rfl, hKC.next HW.out.2.2.2 (fun i hi => by omega) HW.out.2.2.2.size⟩
end Go.Proofs.YthnpdcblfocemaaGreatDoor
set_option linter.unusedVariables false
set_option linter.unusedSimpArgs false
namespace Go.Proofs.YthnpdcblfocemaaGreatDoor
open Go.RowKit

theorem bn64q (a : Nat) (ha : a < 18446744073709551616) : (BitVec.ofInt 64 (a : Int)).toNat = a := by
  rw [BitVec.ofInt_natCast, BitVec.toNat_ofNat]; exact Nat.mod_eq_of_lt (by omega)
theorem or64q (a b : Nat) (ha : a < 18446744073709551616) (hb : b < 18446744073709551616) : bits .or .u64 (a : Int) (b : Int) = ((a ||| b : Nat) : Int) := by
  have hx : a ||| b < 2 ^ 64 := Nat.or_lt_two_pow (by omega) (by omega)
  show IntKind.u64.wrap ((BitVec.ofInt 64 (a : Int) ||| BitVec.ofInt 64 (b : Int)).toNat : Int) = _
  rw [BitVec.toNat_or, bn64q a ha, bn64q b hb, IntKind.wrap_u64]
  omega
theorem or_plusq {a k : Nat} (h : a < 2 ^ k) (x : Nat) : a ||| x * 2 ^ k = a + x * 2 ^ k := by
  rw [Nat.or_comm, Nat.mul_comm x, ← Nat.two_pow_add_eq_or_of_lt h, Nat.add_comm]
theorem pow8 (j : Nat) : (256 : Nat) ^ j = 2 ^ (8 * j) := by rw [show (256 : Nat) = 2 ^ 8 by rfl, ← Nat.pow_mul]
theorem deN_snoc : ∀ (l : List Nat) (x : Nat), deN (l ++ [x]) = deN l + x * 256 ^ l.length := by
  intro l
  induction l with
  | nil => intro x; simp [deN]
  | cons c l ih =>
    intro x
    show c + 256 * deN (l ++ [x]) = c + 256 * deN l + x * 256 ^ (l.length + 1)
    rw [ih, Nat.mul_add, Nat.pow_succ, ← Nat.add_assoc, Nat.mul_comm (256 ^ l.length) 256, Nat.mul_left_comm]
theorem enN_snoc : ∀ (j n : Nat), enN n (j + 1) = enN n j ++ [n / 256 ^ j % 256] := by
  intro j
  induction j with
  | zero => intro n; simp [enN]
  | succ j ih =>
    intro n
    show n % 256 :: enN (n / 256) (j + 1) = n % 256 :: (enN (n / 256) j ++ [n / 256 ^ (j + 1) % 256])
    rw [ih, Nat.div_div_eq_div_mul, Nat.pow_succ, Nat.mul_comm 256]
theorem gt_succ (h : List Nat) (p j : Nat) (hl : p + j < h.length) : gt h p (j + 1) = gt h p j + h.getD (p + j) 0 * 2 ^ (8 * j) := by
  unfold gt
  have e : (h.drop p).take (j + 1) = (h.drop p).take j ++ [h.getD (p + j) 0] := by
    rw [List.take_add_one, List.getElem?_drop]
    simp [List.getD, hl]
  rw [e, deN_snoc, pow8, List.length_take, List.length_drop, Nat.min_eq_left (by omega)]
theorem gt_lt {h : List Nat} (hh : ∀ c ∈ h, c < 256) (p j : Nat) : gt h p j < 2 ^ (8 * j) := by
  have h1 := deN_lt ((h.drop p).take j) (fun c hc => hh c (List.mem_of_mem_drop (List.mem_of_mem_take hc)))
  refine Nat.lt_of_lt_of_le h1 ?_
  rw [pow8]
  exact Nat.pow_le_pow_right (by omega) (Nat.mul_le_mul_left 8 (by rw [List.length_take]; omega))
def ptN (h : List Nat) (p k x : Nat) : List Nat := h.take p ++ (enN x k ++ h.drop (p + k))
theorem ptN_zero (h : List Nat) (p x : Nat) : ptN h p 0 x = h := by
  unfold ptN
  rw [Nat.add_zero]
  show h.take p ++ ([] ++ h.drop p) = h
  rw [List.nil_append, List.take_append_drop]
theorem ptN_len (h : List Nat) (p k x : Nat) (hl : p + k ≤ h.length) : (ptN h p k x).length = h.length := by
  unfold ptN
  rw [List.length_append, List.length_append, List.length_take, List.length_drop, enN_len]
  omega
theorem ptN_succ (h : List Nat) (p k x : Nat) (hl : p + k < h.length) : (ptN h p k x).set (p + k) (x / 2 ^ (8 * k) % 256) = ptN h p (k + 1) x := by
  have e1 : h.drop (p + k) = h.getD (p + k) 0 :: h.drop (p + k + 1) := by
    rw [List.drop_eq_getElem_cons hl]
    simp [List.getD, hl]
  have e2 : (h.take p ++ enN x k).length = p + k := by rw [List.length_append, List.length_take, enN_len]; omega
  unfold ptN
  rw [enN_snoc, e1, pow8, ← List.append_assoc, List.set_append_right _ _ (by omega), e2, Nat.sub_self, List.append_assoc, List.append_assoc]
  rfl
theorem ptN_ok {h : List Nat} (hh : okb h) (p k x : Nat) (hp : p + k ≤ 128) : okb (ptN h p k x) := by
  refine ⟨by rw [ptN_len _ _ _ _ (by rw [hh.1]; omega)]; exact hh.1, fun c hc => ?_⟩
  unfold ptN at hc
  simp only [List.mem_append] at hc
  rcases hc with hc | hc | hc
  · exact hh.2 c (List.mem_of_mem_take hc)
  · exact enN_byte _ _ c hc
  · exact hh.2 c (List.mem_of_mem_drop hc)
theorem zr_ok16 : okb zr15 := ⟨zr_len, fun c hc => by unfold zr15 at hc; rw [(List.mem_replicate.1 hc).2]; omega⟩
def hd0 (n : Nat) (d : List Nat) : List Nat := ptN (ptN (ptN (ptN zr15 0 8 n) 120 8 n) 8 8 d.length) 16 4 (sm d)
theorem hd0_is (n : Nat) (d : List Nat) : hd0 n d = hd20 n d ++ (List.replicate 100 0 ++ enN n 8) := by
  unfold hd0 hd20
  have z : zr15 = List.replicate 128 0 := rfl
  have l8 := enN_len n 8
  have l8' := enN_len d.length 8
  have e1 : ptN zr15 0 8 n = enN n 8 ++ List.replicate 120 0 := by
    unfold ptN
    rw [z, List.take_zero, List.nil_append, List.drop_replicate]
  have e2 : ptN (enN n 8 ++ List.replicate 120 0) 120 8 n = enN n 8 ++ (List.replicate 112 0 ++ enN n 8) := by
    unfold ptN
    rw [List.take_append, List.drop_of_length_le (by simp [l8]), l8, List.take_of_length_le (by omega), List.take_replicate, List.append_nil, List.append_assoc]
    rfl
  have e3 : ptN (enN n 8 ++ (List.replicate 112 0 ++ enN n 8)) 8 8 d.length = enN n 8 ++ (enN d.length 8 ++ (List.replicate 104 0 ++ enN n 8)) := by
    unfold ptN
    rw [List.take_append, List.take_of_length_le (by omega), l8, Nat.sub_self, List.take_zero, List.append_nil, List.drop_append, l8, List.drop_of_length_le (by omega), List.nil_append, List.drop_append, List.drop_replicate, List.length_replicate]
    rfl
  have e4 : ptN (enN n 8 ++ (enN d.length 8 ++ (List.replicate 104 0 ++ enN n 8))) 16 4 (sm d) = enN n 8 ++ (enN d.length 8 ++ (enN (sm d) 4 ++ (List.replicate 100 0 ++ enN n 8))) := by
    unfold ptN
    rw [List.take_append, List.take_of_length_le (by omega), l8, List.take_append, List.take_of_length_le (by omega), l8', Nat.sub_self, List.take_zero, List.append_nil, List.drop_append, l8, List.drop_of_length_le (by omega), List.nil_append, List.drop_append, l8', List.drop_of_length_le (by omega), List.nil_append, List.drop_append, List.drop_replicate, List.length_replicate]
    simp
  rw [e1, e2, e3, e4]
  simp
theorem hd0_top (n : Nat) (d : List Nat) : (hd0 n d).take 20 = hd20 n d := by
  rw [hd0_is, ← hd20_len n d, List.take_left]
theorem hd0_hdB (n : Nat) (d : List Nat) : ptN (hd0 n d) 20 4 (sm ((hd0 n d).take 20)) = hdB n d := by
  rw [hd0_top]
  unfold ptN
  rw [hd0_top, hd0_is, List.drop_append, hd20_len, List.drop_of_length_le (by rw [hd20_len]; omega), List.nil_append, List.drop_append, List.drop_replicate, List.length_replicate]
  unfold hdB
  rfl
theorem hd0_ok (n : Nat) (d : List Nat) : okb (hd0 n d) := ptN_ok (ptN_ok (ptN_ok (ptN_ok zr_ok16 0 8 n (by omega)) 120 8 n (by omega)) 8 8 _ (by omega)) 16 4 _ (by omega)
theorem b8_set (h : List Nat) (q x : Nat) : (b8 h).set q (.int .u8 (x : Int)) = b8 (h.set q x) := by
  unfold b8
  rw [List.map_set]
theorem Vb.setB {w : World} {g : Nat} {t : TypeId} {h : List Nat} (hV : Vb w g t (b8 h)) (q x : Nat) : Vb (w.setCell ⟨g, q, none⟩ (.int .u8 (x : Int))) g t (b8 (h.set q x)) := by
  have hlt := hV.lt
  unfold Vb at hV ⊢
  rw [← b8_set]
  have e : w.heap[g] = Obj.cells (b8 h).toArray t := by
    rw [Array.getElem?_eq_getElem hlt] at hV
    exact Option.some.inj hV
  simp [World.setCell, hlt, Array.getElem_modify, e]
end Go.Proofs.YthnpdcblfocemaaGreatDoor
set_option linter.unusedVariables false
set_option linter.unusedSimpArgs false
namespace Go.Proofs.YthnpdcblfocemaaGreatDoor
open Go.RowKit
theorem kp_put (X : World) (l : Nat) (o : Obj) : Kp (fun k => k = l) X (X.putObj l o) :=
  ⟨rfl, rfl, rfl, by simp, fun k _ hn => World.putObj_heap_other hn⟩
def lrec (fn : FuncId) (a : Act) (ps : Array Tmp) (assign body : Code) (D : Nat) (st : LoopState) (pe : Option Code) : Loop := { state := st, pending := pe, fn := fn, tmps := a.tmps, params := ps, assign := assign, body := body, defers := D }
end Go.Proofs.YthnpdcblfocemaaGreatDoor
