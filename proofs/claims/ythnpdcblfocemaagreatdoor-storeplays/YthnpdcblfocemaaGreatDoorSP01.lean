/-
  Texts of this proof, joined: SnZeros DkMath FrMath SnMath SnMath2.
-/
import Derived.Test.YthnpdcblfocemaaGreatDoorSP00
import Derived.Lib.AppendZeros
import Derived.Lib.AppendZerosOnto
set_option linter.unusedVariables false
set_option linter.unusedSimpArgs false
namespace Go.Proofs.YthnpdcblfocemaaGreatDoor
open Go.RowKit

theorem zeroCells_byte (m : Nat) : Builtin.zeroCells (Value.int .u8 0).cells m = (b8 (List.replicate m 0)).toArray := by
  apply Array.ext
  · simp [Builtin.zeroCells, b8, Value.cells]
  · intro i h1 h2
    have h3 : i < m := by simpa [b8] using h2
    simp [Builtin.zeroCells, b8, Value.cells, Nat.mod_one]
theorem run_append_room_zeros (w : World) (ty : TypeId) (i0 : TypeInfo) (hti : Tryz.prog.info? 5 = some i0) (hz : i0.zero = some (.int .u8 0)) (hi1 : i0.size = 1) (hi2 : i0.bytes = 1) (g sLen sCap : Nat) (cur : Array Value) (hg : w.heap[g]? = some (.cells cur 5 (0, 0))) (m : Nat) (hm : 0 < m) (hm2 : m ≤ 1073741824) (hroom : sLen + m ≤ sCap) (hfit : sLen + m ≤ cur.size) :
    (Builtin.append_ #[30, 3] ty #[.slice (some ⟨g, 0, none⟩) sLen sCap, .int .i64 (m : Int)]).run Tryz.prog w =
      .ok (.slice (some ⟨g, 0, none⟩) (sLen + m) sCap) (w.setRow g (cur.toList.take sLen ++ b8 (List.replicate m 0) ++ cur.toList.drop (sLen + m)).toArray) := by
  have hst := run_storeCells_at Tryz.prog g (sLen * i0.size) 5 (b8 (List.replicate m 0)) 0 cur w hg (by rw [hi1, b8_len, List.length_replicate]; omega) (b8_one _)
  have hw : IntKind.i64.wrap (m : Int) = m := by rw [IntKind.wrap_i64]; omega
  have hneg : ¬ ((m : Int) < 0) := by omega
  have hbig : ¬ (281474976710656 < (m : Int)) := by omega
  have hm0 : ¬ m = 0 := by omega
  simp only [Nat.add_zero, hi1, Nat.mul_one, b8_len, List.length_replicate] at hst
  have hzc := zeroCells_byte m
  simp [Builtin.append_, run_underlying Tryz.underlying30, run_underlying Tryz.underlying3, sizeOf, typeInfo, zeroValue, hti, hz, hi1, hi2, asInt, asIntOf, hw, hneg, hbig, hm0, hroom, hzc, Addr.add_lit, hst]
theorem run_append_own_zeros (w : World) (base : Nat) (ty : TypeId) (v : Value) (l : List Nat) (hO : Ob base w v l) (m : Nat) (hm : 0 < m) (hlen : l.length + m ≤ 1073741824) (hbase : base ≤ w.heap.size) :
    ∃ v' w', (Builtin.append_ #[30, 3] ty #[v, .int .i64 (m : Int)]).run Tryz.prog w = .ok v' w' ∧ Ob base w' v' (l ++ List.replicate m 0) ∧ w.grownBy w' v.ownBlock := by
  obtain ⟨i0, hti, hi0, hi1, hi2⟩ := byteInfo
  have hzs : ∀ k, Builtin.zeroCells (Value.int .u8 0).cells k = (b8 (List.replicate k 0)).toArray := zeroCells_byte
  have hxs : (b8 (l ++ List.replicate m 0)).length = (l.length + m) * 1 := by rw [b8_len, List.length_append, List.length_replicate, Nat.mul_one]
  have grown : ∀ (old : Nat), old < l.length + m → ∀ (row : Option Nat),
      Ob base (w.drew.alloc (.cells ((b8 l).toArray ++ Builtin.zeroCells (Value.int .u8 0).cells m ++ Builtin.zeroCells (Value.int .u8 0).cells (grownCap w (l.length + m) old 5 - (l.length + m))) 5))
        (.slice (some ⟨w.heap.size, 0, none⟩) (l.length + m) (grownCap w (l.length + m) old 5)) (l ++ List.replicate m 0) ∧
      w.grownBy (w.drew.alloc (.cells ((b8 l).toArray ++ Builtin.zeroCells (Value.int .u8 0).cells m ++ Builtin.zeroCells (Value.int .u8 0).cells (grownCap w (l.length + m) old 5 - (l.length + m))) 5)) row := by
    intro old ho row
    have hge := grownCap_ge w (l.length + m) old 5
    have hcm : grownCap w (l.length + m) old 5 ≤ maxLen := grownCap_le_maxLen w (l.length + m) old 5 (by unfold maxLen; omega)
    refine ⟨?_, ⟨rfl, rfl, rfl, by simp, fun k hk _ => heap_alloc_old w.drew _ hk⟩⟩
    unfold Ob
    rw [List.length_append, List.length_replicate]
    refine ⟨hxs, .inr ⟨w.heap.size, _, _, rfl, hbase, heap_alloc_new w.drew _, hge, hcm, ?_, ?_⟩⟩
    · simp only [Array.size_append, List.size_toArray, size_zeroCells, b8_len]
      simp [Value.cells]
      omega
    · rw [hzs m]
      simp only [Array.toList_append, List.append_assoc]
      rw [← List.append_assoc, ← b8_app, ← hxs]
      exact List.take_left
  rcases hO.2 with ⟨rfl, hn⟩ | ⟨g, cap, cur, rfl, hbg, hg, hnc, hcm, hcs, htake⟩
  · have hl : l = [] := List.eq_nil_of_length_eq_zero hn
    subst hl
    have hr := Lib.run_append_nil_zeros (P := Tryz.prog) w 30 3 ty 5 i0 (.int .u8 0) .i64 .i64 Tryz.underlying30 Tryz.underlying3 hti hi0 m hm (by omega) (by simp at hlen; omega) (by simp at hlen; rw [hi2]; omega)
    have hgr := grown 0 (by simp; omega) (Value.ownBlock (.slice none 0 0))
    simp only [List.length_nil, Nat.zero_add, List.nil_append] at hgr ⊢
    have e : (b8 []).toArray ++ Builtin.zeroCells (Value.int .u8 0).cells m = Builtin.zeroCells (Value.int .u8 0).cells m := by simp [b8]
    rw [e] at hgr
    exact ⟨_, _, hr, hgr.1, hgr.2⟩
  · by_cases hroom : l.length + m ≤ cap
    · have hcs2 : cur.size = cap := by rw [hcs, Nat.mul_one]
      have hr := run_append_room_zeros w ty i0 hti hi0 hi1 hi2 g l.length cap cur hg m hm (by omega) hroom (by omega)
      refine ⟨_, _, hr, ?_, ⟨rfl, rfl, rfl, by simp, fun k _ hk => setRow_other w g k _ (fun e => hk (by simp [Value.ownBlock, e]))⟩⟩
      unfold Ob
      rw [List.length_append, List.length_replicate]
      have ht : cur.toList.take l.length = b8 l := by simpa using htake
      refine ⟨hxs, .inr ⟨g, cap, _, rfl, hbg, setRow_heap w g cur _ 5 _ hg, hroom, hcm, ?_, ?_⟩⟩
      · simp only [List.size_toArray, List.length_append, List.length_take, List.length_drop, Array.length_toList, b8_len, List.length_replicate]
        omega
      · rw [ht, ← hxs, ← b8_app]
        exact List.take_left
    · have holds : ∀ j u, (b8 l)[j]? = some u → w.cell? ((⟨g, 0, none⟩ : Addr).add j) = some u := World.ownsRow.cells hO (g := g) rfl
      have hold := run_firstCells_some (P := Tryz.prog) w.drew i0.size l.length ⟨g, 0, none⟩ l.length cap (b8 l) (by rw [b8_len, hi1, Nat.mul_one]) holds
      have hr := Lib.run_append_grow_zeros (P := Tryz.prog) w 30 3 ty 5 i0 (.int .u8 0) .i64 .i64 Tryz.underlying30 Tryz.underlying3 hti hi0 (some ⟨g, 0, none⟩) l.length cap (b8 l) hold m hm (by omega) (by omega) (by omega) (by rw [hi2]; omega) (growslice_fits (by omega) (by rw [hi2]; omega))
      have hgr := grown cap (by omega) (Value.ownBlock (.slice (some ⟨g, 0, none⟩) l.length cap))
      exact ⟨_, _, hr, hgr.1, hgr.2⟩
theorem apZ {ops : Array Oper} {rest : List Oper} {o : Oper} {a : Act} {w : World} {Q : Exit → Act → World → Prop} (hgd : o.guard = none) (s x : Operand)
    (ho : o.op = .call { callee := .builtin .append, args := #[s, x], argTypes := #[30, 3] })
    (base : Nat) (v : Value) (l : List Nat) (hs : a.eval s = v) (hO : Ob base w v l) (m : Nat) (hx : a.eval x = .int .i64 (m : Int)) (hm : 0 < m) (hlen : l.length + m ≤ 1073741824) (hbase : base ≤ w.heap.size)
    (h : ∀ v' w', Ob base w' v' (l ++ List.replicate m 0) → Gw base w w' → wpList Tryz.prog ops Q rest (a.put o.dst v') w') : wpList Tryz.prog ops Q (o :: rest) a w :=
  wpList_plain hgd fun _ hK => by
    obtain ⟨v', w', hr, h2, h3⟩ := run_append_own_zeros w base o.type v l hO m hm hlen hbase
    unfold Oper.wp execOp
    simp only [ho, resolve, invoke, builtin, Sem.run_bind, Sem.run_pure, Result.andThen_ok, List.map_toArray, List.map_cons, List.map_nil, hs, hx, hr]
    exact hK _ _ (h v' w' h2 ⟨fun w0 hb => hb.grown h3 hbase (fun k hk => (hO.lt k hk).1), h3.size⟩)
end Go.Proofs.YthnpdcblfocemaaGreatDoor
set_option linter.unusedVariables false
set_option linter.unusedSimpArgs false
namespace Go.Proofs.YthnpdcblfocemaaGreatDoor

structure Dsk where
  bl : List (List Nat)
  un : List (Nat × List Nat)
  ar : Bool
  lf : Int
  dn : Bool
def full (b : List Nat) : List Nat := b ++ List.replicate (128 - b.length) 0
def okb (b : List Nat) : Prop := b.length = 128 ∧ ∀ c ∈ b, c < 256
structure OkD (s : Dsk) : Prop where
  bl : ∀ b ∈ s.bl, okb b
  un : ∀ u ∈ s.un, u.1 < s.bl.length ∧ okb u.2
def dNew (n : Nat) : Dsk := ⟨List.replicate n (List.replicate 128 0), [], false, 0, false⟩
def dGo (s : Dsk) : Bool := !s.ar || decide (s.lf ≠ 0)
def dGone (s : Dsk) : Dsk := if s.ar = true then (if s.lf = 0 then { s with dn := true } else { s with lf := s.lf - 1 }) else s
def dAsk (s : Dsk) (i : Int) : Nat := if s.dn = true then 150 else if i < 0 ∨ (s.bl.length : Int) ≤ i then 151 else 0
def wrE (s : Dsk) (i : Int) (b : List Nat) : Nat := if dAsk s i ≠ 0 then dAsk s i else if 128 < b.length then 3 else if dGo s = true then 0 else 150
def wrS (s : Dsk) (i : Int) (b : List Nat) : Dsk := if dAsk s i ≠ 0 ∨ 128 < b.length then s else dGone { s with un := s.un ++ [(i.toNat, full b)] }
def lastU (un : List (Nat × List Nat)) (i : Nat) (d : List Nat) : List Nat := un.foldl (fun d u => if u.1 = i then u.2 else d) d
def rdB (s : Dsk) (i : Int) : List Nat := if dAsk s i ≠ 0 then [] else lastU s.un i.toNat (s.bl.getD i.toNat [])
def lay (un : List (Nat × List Nat)) (bl : List (List Nat)) : List (List Nat) := un.foldl (fun bl u => bl.set u.1 u.2) bl
def flE (s : Dsk) : Nat := if s.dn = true then 150 else if dGo s = true then 0 else 150
def flS (s : Dsk) : Dsk := if s.dn = true then s else if dGo s = true then { dGone s with bl := lay s.un s.bl, un := [] } else dGone s
def arS (s : Dsk) (n : Int) : Dsk := { s with ar := decide (0 ≤ n), lf := n }
def fn (f : Int × Int) : Nat := if f.1 = 1 then 128 else if f.1 = 2 then min f.2.toNat 128 else 0
def torn (n : Nat) (w old : List Nat) : List Nat := w.take n ++ old.drop n
def fall (un : List (Nat × List Nat)) (fs : List (Int × Int)) (bl : List (List Nat)) : List (List Nat) := (un.zip fs).foldl (fun bl p => bl.set p.1.1 (torn (fn p.2) p.1.2 (bl.getD p.1.1 []))) bl
def crS (s : Dsk) (fs : List (Int × Int)) : Dsk := ⟨fall s.un fs s.bl, [], false, 0, false⟩

theorem full_ok {b : List Nat} (h : b.length ≤ 128) (hb : ∀ c ∈ b, c < 256) : okb (full b) := by
  unfold full
  refine ⟨by rw [List.length_append, List.length_replicate]; omega, fun c hc => ?_⟩
  rcases List.mem_append.1 hc with q | q
  · exact hb c q
  · rw [(List.mem_replicate.1 q).2]; omega
theorem fn_le (f : Int × Int) : fn f ≤ 128 := by
  unfold fn
  split
  · omega
  · split
    · exact Nat.min_le_right _ _
    · omega
theorem torn_ok {n : Nat} {w old : List Nat} (hn : n ≤ 128) (hw : okb w) (ho : okb old) : okb (torn n w old) := by
  unfold torn
  refine ⟨by rw [List.length_append, List.length_take, List.length_drop, hw.1, ho.1]; omega, fun c hc => ?_⟩
  rcases List.mem_append.1 hc with q | q
  · exact hw.2 c (List.mem_of_mem_take q)
  · exact ho.2 c (List.mem_of_mem_drop q)
theorem torn_get {n : Nat} {w old : List Nat} (hn : n ≤ 128) (hw : w.length = 128) (ho : old.length = 128) (j : Nat) : (torn n w old).getD j 0 = if j < n then w.getD j 0 else old.getD j 0 := by
  unfold torn
  simp only [List.getD, List.getElem?_append, List.length_take, hw, Nat.min_eq_left hn, List.getElem?_take, List.getElem?_drop]
  split
  · rfl
  · rw [show n + (j - n) = j by omega]
theorem dGone_bl (s : Dsk) : (dGone s).bl = s.bl ∧ (dGone s).un = s.un := by
  unfold dGone
  repeat' split
  all_goals exact ⟨rfl, rfl⟩
theorem lay_len (un : List (Nat × List Nat)) : ∀ bl, (lay un bl).length = bl.length := by
  unfold lay
  induction un with
  | nil => intro bl; rfl
  | cons u un ih => intro bl; rw [List.foldl_cons, ih, List.length_set]
theorem lay_ok (un : List (Nat × List Nat)) : ∀ bl : List (List Nat), (∀ b ∈ bl, okb b) → (∀ u ∈ un, okb u.2) → ∀ b ∈ lay un bl, okb b := by
  unfold lay
  induction un with
  | nil => intro bl h _; exact h
  | cons u un ih =>
    intro bl h hu
    rw [List.foldl_cons]
    refine ih _ (fun b hb => ?_) (fun x hx => hu x (by simp [hx]))
    rcases List.mem_or_eq_of_mem_set hb with q | q
    · exact h b q
    · rw [q]; exact hu u (by simp)
theorem lay_far (un : List (Nat × List Nat)) (i : Nat) : ∀ bl : List (List Nat), (∀ u ∈ un, u.1 ≠ i) → (lay un bl).getD i [] = bl.getD i [] := by
  unfold lay
  induction un with
  | nil => intro bl _; rfl
  | cons u un ih =>
    intro bl hu
    rw [List.foldl_cons, ih _ (fun x hx => hu x (by simp [hx]))]
    simp [List.getD, List.getElem?_set, hu u (by simp)]
theorem lay_last (un : List (Nat × List Nat)) (i : Nat) : ∀ bl : List (List Nat), i < bl.length → (lay un bl).getD i [] = lastU un i (bl.getD i []) := by
  unfold lay lastU
  induction un with
  | nil => intro bl _; rfl
  | cons u un ih =>
    intro bl hi
    rw [List.foldl_cons, List.foldl_cons, ih _ (by rw [List.length_set]; exact hi)]
    congr 1
    by_cases q : u.1 = i
    · rw [if_pos q]; simp [List.getD, List.getElem?_set, q, hi]
    · rw [if_neg q]; simp [List.getD, List.getElem?_set, q]
theorem fall_cons (u : Nat × List Nat) (un : List (Nat × List Nat)) (f : Int × Int) (fs : List (Int × Int)) (bl : List (List Nat)) : fall (u :: un) (f :: fs) bl = fall un fs (bl.set u.1 (torn (fn f) u.2 (bl.getD u.1 []))) := rfl
theorem fall_nil (un : List (Nat × List Nat)) (bl : List (List Nat)) : fall un [] bl = bl := by unfold fall; rw [List.zip_nil_right]; rfl
theorem fall_none (fs : List (Int × Int)) (bl : List (List Nat)) : fall [] fs bl = bl := rfl
theorem fall_len (un : List (Nat × List Nat)) : ∀ fs bl, (fall un fs bl).length = bl.length := by
  induction un with
  | nil => intro fs bl; rfl
  | cons u un ih =>
    intro fs bl
    cases fs with
    | nil => rw [fall_nil]
    | cons f fs => rw [fall_cons, ih, List.length_set]
theorem getD_ok {bl : List (List Nat)} (h : ∀ b ∈ bl, okb b) {i : Nat} (hi : i < bl.length) : okb (bl.getD i []) := by
  have e : bl.getD i [] = bl[i] := by simp [List.getD, hi]
  rw [e]
  exact h _ (List.getElem_mem hi)
theorem fall_ok (un : List (Nat × List Nat)) : ∀ (fs : List (Int × Int)) (bl : List (List Nat)), (∀ b ∈ bl, okb b) → (∀ u ∈ un, u.1 < bl.length ∧ okb u.2) → ∀ b ∈ fall un fs bl, okb b := by
  induction un with
  | nil => intro fs bl h _; exact h
  | cons u un ih =>
    intro fs bl h hu
    cases fs with
    | nil => rw [fall_nil]; exact h
    | cons f fs =>
      rw [fall_cons]
      have hu0 := hu u (by simp)
      refine ih _ _ (fun b hb => ?_) (fun x hx => by rw [List.length_set]; exact hu x (by simp [hx]))
      rcases List.mem_or_eq_of_mem_set hb with q | q
      · exact h b q
      · rw [q]; exact torn_ok (fn_le f) hu0.2 (getD_ok h hu0.1)
theorem fall_far (un : List (Nat × List Nat)) (i : Nat) : ∀ (fs : List (Int × Int)) (bl : List (List Nat)), (∀ u ∈ un, u.1 ≠ i) → (fall un fs bl).getD i [] = bl.getD i [] := by
  induction un with
  | nil => intro fs bl _; rfl
  | cons u un ih =>
    intro fs bl hu
    cases fs with
    | nil => rw [fall_nil]
    | cons f fs =>
      rw [fall_cons, ih _ _ (fun x hx => hu x (by simp [hx]))]
      simp [List.getD, List.getElem?_set, hu u (by simp)]
theorem okD_new (n : Nat) : OkD (dNew n) := by
  refine ⟨fun b hb => ?_, fun u hu => by cases hu⟩
  rw [(List.mem_replicate.1 hb).2]
  exact ⟨List.length_replicate, fun c hc => by rw [(List.mem_replicate.1 hc).2]; omega⟩
theorem okD_gone {s : Dsk} (h : OkD s) : OkD (dGone s) := by
  obtain ⟨e1, e2⟩ := dGone_bl s
  exact ⟨by rw [e1]; exact h.bl, by rw [e1, e2]; exact h.un⟩
theorem dAsk_lt {s : Dsk} {i : Int} (h : dAsk s i = 0) : s.dn = false ∧ 0 ≤ i ∧ i.toNat < s.bl.length := by
  unfold dAsk at h
  by_cases q : s.dn = true
  · rw [if_pos q] at h; omega
  · rw [if_neg q] at h
    by_cases q2 : i < 0 ∨ (s.bl.length : Int) ≤ i
    · rw [if_pos q2] at h; omega
    · exact ⟨by simpa using q, by omega, by omega⟩
theorem okD_wr {s : Dsk} (h : OkD s) (i : Int) (b : List Nat) (hb : ∀ c ∈ b, c < 256) : OkD (wrS s i b) := by
  unfold wrS
  split
  · exact h
  · rename_i q
    have q1 : dAsk s i = 0 := by omega
    refine okD_gone ⟨h.bl, fun u hu => ?_⟩
    rcases List.mem_append.1 hu with q | q
    · exact h.un u q
    · obtain rfl : u = (i.toNat, full b) := by simpa using q
      exact ⟨(dAsk_lt q1).2.2, full_ok (by omega) hb⟩
theorem okD_fl {s : Dsk} (h : OkD s) : OkD (flS s) := by
  unfold flS
  split
  · exact h
  · split
    · exact ⟨lay_ok _ _ h.bl (fun u hu => (h.un u hu).2), fun u hu => by cases hu⟩
    · exact okD_gone h
theorem okD_cr {s : Dsk} (h : OkD s) (fs : List (Int × Int)) : OkD (crS s fs) := ⟨fall_ok _ _ _ h.bl h.un, fun u hu => by cases hu⟩
end Go.Proofs.YthnpdcblfocemaaGreatDoor
set_option linter.unusedVariables false
set_option linter.unusedSimpArgs false
namespace Go.Proofs.YthnpdcblfocemaaGreatDoor

def sm (l : List Nat) : Nat := cS (fun k => l.getD k 0) l.length
theorem sm_lt (l : List Nat) : sm l < 4294967296 := cS_lt _ _
def four (n : Nat) : List Nat := [n % 256, n / 256 % 256, n / 65536 % 256, n / 16777216]
def hd (k : Nat) (l : List Nat) : List Nat := 82 :: 71 :: 1 :: k :: (four l.length ++ l)
def nn (b : List Nat) : Nat := b.getD 4 0 + 256 * b.getD 5 0 + 65536 * b.getD 6 0 + 16777216 * b.getD 7 0
end Go.Proofs.YthnpdcblfocemaaGreatDoor
set_option linter.unusedVariables false
set_option linter.unusedSimpArgs false
namespace Go.Proofs.YthnpdcblfocemaaGreatDoor

def mix (t a m : Nat) : Nat := a % 256 ^ t + m / 256 ^ t * 256 ^ t
theorem mix_zero (a m : Nat) : mix 0 a m = m := by
  unfold mix
  rw [Nat.pow_zero, Nat.mod_one, Nat.div_one, Nat.mul_one, Nat.zero_add]
theorem deN_mix : ∀ (t : Nat) (A B : List Nat), A.length = B.length → (∀ c ∈ A, c < 256) → (∀ c ∈ B, c < 256) → deN (A.take t ++ B.drop t) = mix t (deN A) (deN B) := by
  intro t
  induction t with
  | zero => intro A B _ _ _; rw [mix_zero]; rfl
  | succ t ih =>
    intro A B hl hA hB
    cases A with
    | nil =>
      have e : B = [] := List.eq_nil_of_length_eq_zero hl.symm
      subst e
      unfold mix
      simp [deN]
    | cons c A =>
      cases B with
      | nil => simp at hl
      | cons d B =>
        have hc := hA c (by simp)
        have hd := hB d (by simp)
        have h := ih A B (by simpa using hl) (fun x hx => hA x (by simp [hx])) (fun x hx => hB x (by simp [hx]))
        have e1 : deN ((c :: A).take (t + 1) ++ (d :: B).drop (t + 1)) = c + 256 * deN (A.take t ++ B.drop t) := rfl
        rw [e1, h]
        show c + 256 * mix t (deN A) (deN B) = mix (t + 1) (c + 256 * deN A) (d + 256 * deN B)
        unfold mix
        rw [show (256 : Nat) ^ (t + 1) = 256 * 256 ^ t by rw [Nat.pow_succ, Nat.mul_comm]]
        rw [Nat.mod_mul, ← Nat.div_div_eq_div_mul]
        rw [show (c + 256 * deN A) % 256 = c by omega, show (c + 256 * deN A) / 256 = deN A by omega, show (d + 256 * deN B) / 256 = deN B by omega]
        rw [Nat.mul_add, ← Nat.add_assoc]
        congr 1
        rw [Nat.mul_left_comm]
theorem mix_mix (t t' a m : Nat) : mix t' a (mix t a m) = mix (max t t') a m := by
  by_cases h : t' ≤ t
  · rw [Nat.max_eq_left h]
    obtain ⟨l, rfl⟩ : ∃ l, t = t' + l := ⟨t - t', by omega⟩
    have hd : (256 : Nat) ^ t' ∣ 256 ^ (t' + l) := ⟨256 ^ l, by rw [Nat.pow_add]⟩
    have e : mix (t' + l) a m % 256 ^ t' = a % 256 ^ t' := by
      unfold mix
      obtain ⟨q, hq⟩ := hd
      rw [Nat.add_mod, Nat.mod_mod_of_dvd _ ⟨q, hq⟩]
      have : m / 256 ^ (t' + l) * 256 ^ (t' + l) % 256 ^ t' = 0 := by
        rw [hq, Nat.mul_left_comm, Nat.mul_mod_right]
      rw [this, Nat.add_zero, Nat.mod_mod]
    have e2 := Nat.mod_add_div (mix (t' + l) a m) (256 ^ t')
    rw [e, Nat.mul_comm] at e2
    conv => lhs; unfold mix
    exact e2
  · obtain ⟨l, rfl⟩ : ∃ l, t' = t + l := ⟨t' - t, by omega⟩
    rw [Nat.max_eq_right (by omega)]
    have hp : 0 < (256 : Nat) ^ t := Nat.pow_pos (by omega)
    have e : mix t a m / 256 ^ (t + l) = m / 256 ^ (t + l) := by
      rw [Nat.pow_add, ← Nat.div_div_eq_div_mul, ← Nat.div_div_eq_div_mul]
      congr 1
      unfold mix
      rw [Nat.add_mul_div_right _ _ hp, Nat.div_eq_of_lt (Nat.mod_lt _ hp), Nat.zero_add]
    unfold mix at e ⊢
    rw [e]
theorem mix_le (t a m : Nat) (h : a = m + 2 ∨ (m = 0 ∧ 1 ≤ a ∧ a ≤ 2)) : mix t a m = a ∨ mix t a m ≤ m := by
  cases t with
  | zero => exact Or.inr (by rw [mix_zero]; exact Nat.le_refl _)
  | succ t =>
    have hp : 0 < (256 : Nat) ^ t := Nat.pow_pos (by omega)
    have hK : 256 ≤ (256 : Nat) ^ (t + 1) := by rw [Nat.pow_succ]; omega
    unfold mix
    generalize (256 : Nat) ^ (t + 1) = K at *
    rcases h with h | ⟨h1, h2, h3⟩
    · subst h
      have ea := Nat.mod_add_div (m + 2) K
      have em := Nat.mod_add_div m K
      have la := Nat.mod_lt (m + 2) (show 0 < K by omega)
      have lm := Nat.mod_lt m (show 0 < K by omega)
      by_cases q : (m + 2) / K = m / K
      · left
        rw [← q, Nat.mul_comm]
        exact ea
      · have q1 : m / K ≤ (m + 2) / K := Nat.div_le_div_right (by omega)
        have q2 : m / K + 1 ≤ (m + 2) / K := by omega
        have q3 : K * (m / K + 1) ≤ K * ((m + 2) / K) := Nat.mul_le_mul_left K q2
        rw [Nat.mul_add, Nat.mul_one] at q3
        right
        rw [Nat.mul_comm (m / K) K]
        omega
    · subst h1
      left
      rw [Nat.mod_eq_of_lt (by omega), Nat.zero_div, Nat.zero_mul, Nat.add_zero]
def gt (h : List Nat) (p k : Nat) : Nat := deN ((h.drop p).take k)
def hd20 (n : Nat) (d : List Nat) : List Nat := enN n 8 ++ (enN d.length 8 ++ enN (sm d) 4)
def hdB (n : Nat) (d : List Nat) : List Nat := hd20 n d ++ (enN (sm (hd20 n d)) 4 ++ (List.replicate 96 0 ++ enN n 8))
theorem hd20_len (n : Nat) (d : List Nat) : (hd20 n d).length = 20 := by simp [hd20, enN_len]
theorem hdB_len (n : Nat) (d : List Nat) : (hdB n d).length = 128 := by simp [hdB, hd20_len, enN_len]
theorem hdB_ok (n : Nat) (d : List Nat) : okb (hdB n d) := by
  refine ⟨hdB_len n d, fun c hc => ?_⟩
  simp only [hdB, hd20, List.mem_append] at hc
  rcases hc with (hc | hc | hc) | hc | hc | hc
  · exact enN_byte _ _ c hc
  · exact enN_byte _ _ c hc
  · exact enN_byte _ _ c hc
  · exact enN_byte _ _ c hc
  · rw [(List.mem_replicate.1 hc).2]; omega
  · exact enN_byte _ _ c hc
theorem part_mid {A B C : List Nat} {p k : Nat} (hp : A.length = p) (hk : B.length = k) : ((A ++ (B ++ C)).drop p).take k = B := by
  rw [← hp, List.drop_left, ← hk, List.take_left]
theorem part_end {A B : List Nat} {p k : Nat} (hp : A.length = p) (hk : B.length = k) : ((A ++ B).drop p).take k = B := by
  rw [← hp, List.drop_left, ← hk, List.take_length]
theorem hdB_n {n : Nat} (d : List Nat) (hn : n < 256 ^ 8) : gt (hdB n d) 0 8 = n := by
  have e : hdB n d = [] ++ (enN n 8 ++ ((enN d.length 8 ++ enN (sm d) 4) ++ (enN (sm (hd20 n d)) 4 ++ (List.replicate 96 0 ++ enN n 8)))) := by simp [hdB, hd20]
  unfold gt
  rw [e, part_mid (A := []) (p := 0) rfl (enN_len n 8), de_en 8 n hn]
theorem hdB_size (n : Nat) {d : List Nat} (hd : d.length < 256 ^ 8) : gt (hdB n d) 8 8 = d.length := by
  have e : hdB n d = enN n 8 ++ (enN d.length 8 ++ (enN (sm d) 4 ++ (enN (sm (hd20 n d)) 4 ++ (List.replicate 96 0 ++ enN n 8)))) := by simp [hdB, hd20]
  unfold gt
  rw [e, part_mid (enN_len n 8) (enN_len _ 8), de_en 8 _ hd]
theorem hdB_sum (n : Nat) (d : List Nat) : gt (hdB n d) 16 4 = sm d := by
  have e : hdB n d = (enN n 8 ++ enN d.length 8) ++ (enN (sm d) 4 ++ (enN (sm (hd20 n d)) 4 ++ (List.replicate 96 0 ++ enN n 8))) := by simp [hdB, hd20]
  unfold gt
  rw [e, part_mid (by simp [enN_len]) (enN_len _ 4), de_en 4 _ (sm_lt d)]
theorem hdB_top (n : Nat) (d : List Nat) : (hdB n d).take 20 = hd20 n d := by
  unfold hdB
  rw [← hd20_len n d, List.take_left]
theorem hdB_hs (n : Nat) (d : List Nat) : gt (hdB n d) 20 4 = sm ((hdB n d).take 20) := by
  rw [hdB_top]
  unfold gt hdB
  rw [part_mid (hd20_len n d) (enN_len _ 4), de_en 4 _ (sm_lt _)]
theorem hdB_last {n : Nat} (d : List Nat) (hn : n < 256 ^ 8) : gt (hdB n d) 120 8 = n := by
  have e : hdB n d = (hd20 n d ++ (enN (sm (hd20 n d)) 4 ++ List.replicate 96 0)) ++ enN n 8 := by simp [hdB]
  unfold gt
  rw [e, part_end (by simp [hd20_len, enN_len]) (enN_len n 8), de_en 8 n hn]
theorem torn_low {k p l : Nat} {H X : List Nat} (hH : H.length = 128) (hk : k ≤ 128) (h : p + l ≤ k) : ((torn k H X).drop p).take l = (H.drop p).take l := by
  unfold torn
  rw [List.drop_append_of_le_length (by rw [List.length_take]; omega), List.take_append_of_le_length (by rw [List.length_drop, List.length_take]; omega), List.drop_take, List.take_take, Nat.min_eq_left (by omega)]
theorem torn_high {k p l : Nat} {H X : List Nat} (hH : H.length = 128) (hk : k ≤ p) (hp : p ≤ 128) : ((torn k H X).drop p).take l = (X.drop p).take l := by
  unfold torn
  have e : (List.take k H).length = k := by rw [List.length_take]; omega
  rw [List.drop_append, e, List.drop_of_length_le (by omega), List.nil_append, List.drop_drop, show k + (p - k) = p by omega]
theorem torn_last {k : Nat} {H X : List Nat} (hH : okb H) (hX : okb X) (h1 : 120 ≤ k) (h2 : k ≤ 128) : gt (torn k H X) 120 8 = mix (k - 120) (gt H 120 8) (gt X 120 8) := by
  unfold gt
  have lH : (H.drop 120).length = 8 := by rw [List.length_drop, hH.1]
  have lX : (X.drop 120).length = 8 := by rw [List.length_drop, hX.1]
  rw [List.take_of_length_le (l := H.drop 120) (by omega), List.take_of_length_le (l := X.drop 120) (by omega)]
  rw [← deN_mix (k - 120) (H.drop 120) (X.drop 120) (by omega) (fun c hc => hH.2 c (List.mem_of_mem_drop hc)) (fun c hc => hX.2 c (List.mem_of_mem_drop hc))]
  congr 1
  unfold torn
  rw [List.drop_append_of_le_length (by rw [List.length_take, hH.1]; omega), List.take_of_length_le (by simp [hH.1, hX.1]; omega), List.drop_take, List.drop_drop, show 120 + (k - 120) = k by omega]
end Go.Proofs.YthnpdcblfocemaaGreatDoor
set_option linter.unusedVariables false
set_option linter.unusedSimpArgs false
namespace Go.Proofs.YthnpdcblfocemaaGreatDoor

def slA (at_ room which : Nat) : Nat := at_ + which * (room + 1)
def whl (h : List Nat) (which room : Nat) : Prop := gt h 0 8 = gt h 120 8 ∧ 1 ≤ gt h 0 8 ∧ gt h 0 8 ≤ 4611686018427387904 ∧ gt h 0 8 % 2 = which ∧ gt h 8 8 ≤ room * 128 ∧ gt h 20 4 = sm (h.take 20)
instance (h : List Nat) (which room : Nat) : Decidable (whl h which room) := by unfold whl; infer_instance
def sdat (B : Nat → List Nat) (a room : Nat) : List Nat := (List.range room).flatMap fun i => B (a + 1 + i)
def slt (B : Nat → List Nat) (at_ room which : Nat) : List Nat × Nat :=
  if whl (B (slA at_ room which)) which room then
    (if sm ((sdat B (slA at_ room which) room).take (gt (B (slA at_ room which)) 8 8)) = gt (B (slA at_ room which)) 16 4 then ((sdat B (slA at_ room which) room).take (gt (B (slA at_ room which)) 8 8), gt (B (slA at_ room which)) 0 8) else ([], 0))
  else ([], 0)
def ldV (B : Nat → List Nat) (at_ room : Nat) : List Nat × Nat × Nat :=
  if (slt B at_ room 0).2 = 0 ∧ (slt B at_ room 1).2 = 0 then ([], 0, 160) else if (slt B at_ room 1).2 < (slt B at_ room 0).2 then ((slt B at_ room 0).1, (slt B at_ room 0).2, 0) else ((slt B at_ room 1).1, (slt B at_ room 1).2, 0)
theorem slt_le {B : Nat → List Nat} {at_ room which : Nat} : (slt B at_ room which).2 ≤ gt (B (slA at_ room which)) 120 8 := by
  unfold slt
  split
  · rename_i h
    split
    · show gt _ 0 8 ≤ _
      rw [h.1]
      exact Nat.le_refl _
    · exact Nat.zero_le _
  · exact Nat.zero_le _
structure Jv (at_ room N : Nat) (last : List Nat) (B : Nat → List Nat) : Prop where
  whole : 1 ≤ N → slt B at_ room (N % 2) = (last, N)
  zero : N = 0 → gt (B (slA at_ room 0)) 120 8 = 0
  oth : ∃ t M, (N + 1 = M + 2 ∨ (M = 0 ∧ N + 1 ≤ 2)) ∧ gt (B (slA at_ room ((N + 1) % 2))) 120 8 = mix t (N + 1) M
  ne : gt (B (slA at_ room ((N + 1) % 2))) 120 8 ≠ N + 1
theorem Jv.low {at_ room N : Nat} {last : List Nat} {B : Nat → List Nat} (h : Jv at_ room N last B) : gt (B (slA at_ room ((N + 1) % 2))) 120 8 ≤ N - 1 := by
  obtain ⟨t, M, h1, h2⟩ := h.oth
  have h3 := h.ne
  rw [h2] at h3 ⊢
  rcases mix_le t (N + 1) M (by omega) with q | q
  · exact absurd q h3
  · omega
theorem Jv.load {at_ room N : Nat} {last : List Nat} {B : Nat → List Nat} (h : Jv at_ room N last B) : ldV B at_ room = if N = 0 then ([], 0, 160) else (last, N, 0) := by
  have hl := h.low
  unfold ldV
  by_cases hN : N = 0
  · subst hN
    have h0 := h.zero rfl
    have a0 := slt_le (B := B) (at_ := at_) (room := room) (which := 0)
    have a1 := slt_le (B := B) (at_ := at_) (room := room) (which := 1)
    have hl1 : gt (B (slA at_ room 1)) 120 8 ≤ 0 := hl
    rw [if_pos ⟨by omega, by omega⟩, if_pos rfl]
  · have hw := h.whole (by omega)
    rw [if_neg hN]
    have hp : N % 2 = 0 ∨ N % 2 = 1 := by omega
    rcases hp with hp | hp
    · have e1 : (N + 1) % 2 = 1 := by omega
      rw [hp] at hw
      rw [e1] at hl
      have a1 := slt_le (B := B) (at_ := at_) (room := room) (which := 1)
      rw [hw]
      rw [if_neg (by show ¬ (N = 0 ∧ _); omega), if_pos (by show _ < N; omega)]
    · have e1 : (N + 1) % 2 = 0 := by omega
      rw [hp] at hw
      rw [e1] at hl
      have a0 := slt_le (B := B) (at_ := at_) (room := room) (which := 0)
      rw [hw]
      rw [if_neg (by show ¬ (_ ∧ N = 0); omega), if_neg (by show ¬ N < _; omega)]
def ck (d : List Nat) (i : Nat) : List Nat := (d.drop (i * 128)).take 128
theorem ck_len (d : List Nat) (i : Nat) : (ck d i).length ≤ 128 := by unfold ck; rw [List.length_take]; omega
theorem ck_byte {d : List Nat} (h : ∀ c ∈ d, c < 256) (i : Nat) : ∀ c ∈ ck d i, c < 256 := fun c hc => h c (List.mem_of_mem_drop (List.mem_of_mem_take hc))
theorem sdat_text : ∀ (room : Nat) (d : List Nat) (B : Nat → List Nat) (a : Nat), d.length ≤ room * 128 → (∀ i, i < room → (B (a + 1 + i)).length = 128) → (∀ i, i < room → i * 128 < d.length → B (a + 1 + i) = full (ck d i)) → (sdat B a room).take d.length = d := by
  intro room
  induction room with
  | zero =>
    intro d B a h _ _
    have e : d = [] := List.eq_nil_of_length_eq_zero (by omega)
    subst e
    rfl
  | succ room ih =>
    intro d B a h hl hb
    have e1 : sdat B a (room + 1) = B (a + 1) ++ sdat (fun i => B (i + 1)) a room := by
      unfold sdat
      rw [List.range_succ_eq_map, List.flatMap_cons, Nat.add_zero, List.flatMap_map]
      congr 1
    rw [e1]
    by_cases hd : d.length ≤ 128
    · by_cases h0 : d.length = 0
      · have e : d = [] := List.eq_nil_of_length_eq_zero h0
        subst e
        rfl
      · have hb0 := hb 0 (by omega) (by omega)
        have hck : ck d 0 = d := by unfold ck; rw [Nat.zero_mul, List.drop_zero, List.take_of_length_le hd]
        rw [Nat.add_zero, hck] at hb0
        rw [hb0]
        unfold full
        rw [List.append_assoc, List.take_left]
    · have hb0 := hb 0 (by omega) (by omega)
      rw [Nat.add_zero] at hb0
      have hck : (ck d 0).length = 128 := by unfold ck; rw [List.length_take, List.length_drop]; omega
      have hf : full (ck d 0) = d.take 128 := by
        unfold full
        rw [hck, Nat.sub_self, List.replicate_zero, List.append_nil]
        unfold ck
        rw [Nat.zero_mul, List.drop_zero]
      have h2 := ih (d.drop 128) (fun i => B (i + 1)) a (by rw [List.length_drop]; rw [Nat.succ_mul] at h; omega) (fun i hi => hl (i + 1) (by omega)) (fun i hi hid => by
        rw [List.length_drop] at hid
        have h3 := hb (i + 1) (by omega) (by rw [Nat.succ_mul]; omega)
        have e2 : ck d (i + 1) = ck (d.drop 128) i := by
          unfold ck
          rw [List.drop_drop, show (i + 1) * 128 = 128 + i * 128 by rw [Nat.succ_mul]; omega]
        rw [← e2]
        exact h3)
      rw [hb0, hf]
      have l1 : (d.take 128).length = 128 := by rw [List.length_take]; omega
      rw [List.length_drop] at h2
      rw [List.take_append, l1, h2, List.take_of_length_le (by omega), List.take_append_drop]
theorem slt_new {B : Nat → List Nat} {at_ room n k : Nat} {d : List Nat} {X : List Nat} (hn : 1 ≤ n) (hn2 : n ≤ 4611686018427387904) (hk : 120 ≤ k) (hk2 : k ≤ 128) (hX : okb X) (hd : d.length ≤ room * 128) (hr : room ≤ 16384)
    (hh : B (slA at_ room (n % 2)) = torn k (hdB n d) X) (hl : gt (B (slA at_ room (n % 2))) 120 8 = n) (hB : ∀ i, i < room → (B (slA at_ room (n % 2) + 1 + i)).length = 128) (ht : ∀ i, i < room → i * 128 < d.length → B (slA at_ room (n % 2) + 1 + i) = full (ck d i)) : slt B at_ room (n % 2) = (d, n) := by
  have hH := hdB_len n d
  have f : ∀ p l, p + l ≤ 24 → gt (B (slA at_ room (n % 2))) p l = gt (hdB n d) p l := fun p l hpl => by
    rw [hh]
    unfold gt
    rw [torn_low hH hk2 (by omega)]
  have e0 := f 0 8 (by omega)
  have e1 := f 8 8 (by omega)
  have e2 := f 16 4 (by omega)
  have e3 := f 20 4 (by omega)
  have e4 : (B (slA at_ room (n % 2))).take 20 = (hdB n d).take 20 := by
    rw [hh]
    have := torn_low (p := 0) (l := 20) (X := X) hH hk2 (by omega)
    rw [List.drop_zero, List.drop_zero] at this
    exact this
  have hd8 : d.length < 256 ^ 8 := by
    have : (256 : Nat) ^ 8 = 18446744073709551616 := by decide
    have := Nat.mul_le_mul_right 128 hr
    omega
  have hn8 : n < 256 ^ 8 := by
    have : (256 : Nat) ^ 8 = 18446744073709551616 := by decide
    omega
  rw [hdB_n d hn8] at e0
  rw [hdB_size n hd8] at e1
  rw [hdB_sum] at e2
  rw [hdB_hs, ← e4] at e3
  have hw : whl (B (slA at_ room (n % 2))) (n % 2) room := ⟨by rw [e0, hl], by omega, by omega, by rw [e0], by omega, e3⟩
  have hs := sdat_text room d B (slA at_ room (n % 2)) hd hB ht
  unfold slt
  rw [if_pos hw, e1, hs, e2, if_pos rfl, e0]
theorem slt_same {B B' : Nat → List Nat} {at_ room which : Nat} (h : ∀ i, i ≤ room → B' (slA at_ room which + i) = B (slA at_ room which + i)) : slt B' at_ room which = slt B at_ room which := by
  have e0 : B' (slA at_ room which) = B (slA at_ room which) := h 0 (by omega)
  have e1 : sdat B' (slA at_ room which) room = sdat B (slA at_ room which) room := by
    unfold sdat
    have : ∀ i ∈ List.range room, B' (slA at_ room which + 1 + i) = B (slA at_ room which + 1 + i) := fun i hi => by
      have hi2 := List.mem_range.1 hi
      have := h (1 + i) (by omega)
      rw [← Nat.add_assoc] at this
      exact this
    rw [List.flatMap_def, List.flatMap_def, List.map_congr_left this]
  unfold slt
  rw [e0, e1]
end Go.Proofs.YthnpdcblfocemaaGreatDoor
