/-
Layer 12's memory: lists of bytes and of numbers; lists of one's own that grow; what writes into some blocks alone.
Plain numbers of layer 11: bits of a text that are turned one by one.
Layer 13's plain numbers: frames as lists of bytes.
-/
import Derived.Test.YtfcbgkcclganmaaDoorZ01
import Derived.Test.YtfcbgkcclganmaaDoorZ00
import Derived.Laws.AppendOwnNone

set_option linter.unusedVariables false
set_option linter.unusedSimpArgs false
namespace Go.Proofs.YtfcbgkcclganmaaDoor
open Go.RowKit

def b8f (l : List Nat) : Nat → Value := fun k => .int .u8 ((l.getD k 0 : Nat) : Int)
def i6f (l : List Int) : Nat → Value := fun k => .int .i64 (l.getD k 0)
def b8 (l : List Nat) : List Value := l.map fun c : Nat => .int .u8 (c : Int)
def i6 (l : List Int) : List Value := l.map fun c => .int .i64 c
theorem b8_len (l : List Nat) : (b8 l).length = l.length := by simp [b8]
theorem i6_len (l : List Int) : (i6 l).length = l.length := by simp [i6]
theorem b8_app (l m : List Nat) : b8 (l ++ m) = b8 l ++ b8 m := by simp [b8]
theorem i6_app (l m : List Int) : i6 (l ++ m) = i6 l ++ i6 m := by simp [i6]
theorem vl_b8 (l : List Nat) : vl (b8f l) l.length = b8 l := by
  apply List.ext_getElem
  · rw [vl_len, b8_len]
  · intro k h1 h2
    rw [b8_len] at h2
    simp [vl, b8, b8f, List.getD, h2]
theorem vl_i6 (l : List Int) : vl (i6f l) l.length = i6 l := by
  apply List.ext_getElem
  · rw [vl_len, i6_len]
  · intro k h1 h2
    rw [i6_len] at h2
    simp [vl, i6, i6f, List.getD, h2]
theorem b8_one (l : List Nat) : ∀ u ∈ b8 l, u.oneCell' = true := by
  intro u hu
  unfold b8 at hu
  obtain ⟨k, _, rfl⟩ := List.mem_map.1 hu
  rfl
theorem i6_one (l : List Int) : ∀ u ∈ i6 l, u.oneCell' = true := by
  intro u hu
  unfold i6 at hu
  obtain ⟨k, _, rfl⟩ := List.mem_map.1 hu
  rfl
/-- A text in memory; numbers in memory. -/
def Bs (w : World) (v : Value) (l : List Nat) : Prop := Ls w v l.length (b8f l)
def Is (w : World) (v : Value) (l : List Int) : Prop := Ls w v l.length (i6f l)
theorem Bs.later {w w' : World} {v : Value} {l : List Nat} (h : Bs w v l) (hb : Below w.heap.size w w') : Bs w' v l := Ls.later h hb
theorem Is.later {w w' : World} {v : Value} {l : List Int} (h : Is w v l) (hb : Below w.heap.size w w') : Is w' v l := Ls.later h hb
/-- Lists of one's own. -/
def Ob (base : Nat) (w : World) (v : Value) (l : List Nat) : Prop := w.ownsRow base 5 1 v l.length (b8 l)
def Oi (base : Nat) (w : World) (v : Value) (l : List Int) : Prop := w.ownsRow base 3 1 v l.length (i6 l)
theorem Ob.bs {base : Nat} {w : World} {v : Value} {l : List Nat} (h : Ob base w v l) : Bs w v l ∧ Ow base v := by
  unfold Ob at h
  rw [← vl_b8] at h
  exact ls_of_own h
theorem Oi.is {base : Nat} {w : World} {v : Value} {l : List Int} (h : Oi base w v l) : Is w v l ∧ Ow base v := by
  unfold Oi at h
  rw [← vl_i6] at h
  exact ls_of_own h
theorem ob_nil (base : Nat) (w : World) : Ob base w (.slice none 0 0) [] := World.ownsRow_nil _ _ _ _
theorem oi_nil (base : Nat) (w : World) : Oi base w (.slice none 0 0) [] := World.ownsRow_nil _ _ _ _
theorem Ob.later {base : Nat} {w w' : World} {v : Value} {l : List Nat} (h : Ob base w v l) (hb : Below w.heap.size w w') : Ob base w' v l := own_later h hb
theorem Oi.later {base : Nat} {w w' : World} {v : Value} {l : List Int} (h : Oi base w v l) (hb : Below w.heap.size w w') : Oi base w' v l := own_later h hb
theorem Ob.sl {base : Nat} {w : World} {v : Value} {l : List Nat} (h : Ob base w v l) : ∃ ad cap, v = .slice ad l.length cap := own_sl h
theorem Oi.sl {base : Nat} {w : World} {v : Value} {l : List Int} (h : Oi base w v l) : ∃ ad cap, v = .slice ad l.length cap := own_sl h
theorem Ob.low {base base' : Nat} {w : World} {v : Value} {l : List Nat} (h : Ob base w v l) (hl : base' ≤ base) : Ob base' w v l := by
  refine ⟨h.1, ?_⟩
  rcases h.2 with h0 | ⟨g, cap, cur, hv, hg, hh, r⟩
  · exact Or.inl h0
  · exact Or.inr ⟨g, cap, cur, hv, Nat.le_trans hl hg, hh, r⟩
theorem Bs.at {w : World} {v : Value} {l : List Nat} (h : Bs w v l) (j : Nat) (hj : j < l.length) : ∃ (b o cap : Nat), v = .slice (some ⟨b, o, none⟩) l.length cap ∧ w.cell? ⟨b, o + j, none⟩ = some (.int .u8 ((l.getD j 0 : Nat) : Int)) := Ls.spot h j hj
theorem Is.at {w : World} {v : Value} {l : List Int} (h : Is w v l) (j : Nat) (hj : j < l.length) : ∃ (b o cap : Nat), v = .slice (some ⟨b, o, none⟩) l.length cap ∧ w.cell? ⟨b, o + j, none⟩ = some (.int .i64 (l.getD j 0)) := Ls.spot h j hj
theorem Bs.len {w : World} {v : Value} {l : List Nat} (h : Bs w v l) : ∃ (ad : Option Addr) (cap : Nat), v = .slice ad l.length cap ∧ l.length ≤ cap ∧ cap ≤ maxLen := Ls.len h
theorem Is.len {w : World} {v : Value} {l : List Int} (h : Is w v l) : ∃ (ad : Option Addr) (cap : Nat), v = .slice ad l.length cap ∧ l.length ≤ cap ∧ cap ≤ maxLen := Ls.len h
theorem Bs.cel {w : World} {ad : Option Addr} {n cap : Nat} {l : List Nat} (h : Bs w (.slice ad n cap) l) (j : Nat) (hj : j < l.length) : ∃ (b o : Nat), ad = some ⟨b, o, none⟩ ∧ w.cell? ⟨b, o + j, none⟩ = some (.int .u8 ((l.getD j 0 : Nat) : Int)) := by
  obtain ⟨b, o, c, e, hc⟩ := h.at j hj
  injection e with e1 e2 e3
  exact ⟨b, o, e1, hc⟩
theorem Is.cel {w : World} {ad : Option Addr} {n cap : Nat} {l : List Int} (h : Is w (.slice ad n cap) l) (j : Nat) (hj : j < l.length) : ∃ (b o : Nat), ad = some ⟨b, o, none⟩ ∧ w.cell? ⟨b, o + j, none⟩ = some (.int .i64 (l.getD j 0)) := by
  obtain ⟨b, o, c, e, hc⟩ := h.at j hj
  injection e with e1 e2 e3
  exact ⟨b, o, e1, hc⟩
theorem bs_one (w : World) (x : Nat) (t : TypeId) : Bs (w.alloc (.cells #[.int .u8 (x : Int)] t)) (.slice (some ⟨w.heap.size, 0, none⟩) 1 1) [x] :=
  ⟨_, 1, w.heap.size, 0, rfl, Nat.le_refl _, ⟨by unfold maxLen; omega, fun e => by cases e⟩, fun _ => rfl, fun k hk => by
    have hk0 : k < 1 := hk
    obtain rfl : k = 0 := by omega
    simp [go_sem, b8f]⟩
theorem is_one (w : World) (x : Int) (t : TypeId) : Is (w.alloc (.cells #[.int .i64 x] t)) (.slice (some ⟨w.heap.size, 0, none⟩) 1 1) [x] :=
  ⟨_, 1, w.heap.size, 0, rfl, Nat.le_refl _, ⟨by unfold maxLen; omega, fun e => by cases e⟩, fun _ => rfl, fun k hk => by
    have hk0 : k < 1 := hk
    obtain rfl : k = 0 := by omega
    simp [go_sem, i6f]⟩
/-- What a step that writes from a block on alone leaves. -/
def Gw (base : Nat) (w w' : World) : Prop := (∀ w0, Below base w0 w → Below base w0 w') ∧ w.heap.size ≤ w'.heap.size
theorem byteInfo : ∃ i, Tryd.prog.info? 5 = some i ∧ i.zero = some (.int .u8 0) ∧ i.size = 1 ∧ i.bytes = 1 := by
  obtain ⟨i0, hti, hi0, hi1, hi2⟩ := info_parts dinfo_byte
  exact ⟨i0, hti, hi0, hi1, hi2⟩
theorem dinfo_i64 : (Tryd.prog.info? 3).map (fun i => (i.zero, i.size, i.bytes)) = some (some (.int .i64 0), 1, 8) := by kernel_rfl
theorem i64Info : ∃ i, Tryd.prog.info? 3 = some i ∧ i.zero = some (.int .i64 0) ∧ i.size = 1 ∧ i.bytes = 8 := by
  obtain ⟨i0, hti, hi0, hi1, hi2⟩ := info_parts dinfo_i64
  exact ⟨i0, hti, hi0, hi1, hi2⟩
/-- A list of one's own grows by a text. -/
theorem apB {ops : Array Oper} {rest : List Oper} {o : Oper} {a : Act} {w : World} {Q : Exit → Act → World → Prop} (hgd : o.guard = none) (s x : Operand)
    (ho : o.op = .call { callee := .builtin .append, args := #[s, x], argTypes := #[22, 22] })
    (base : Nat) (v : Value) (l : List Nat) (hs : a.eval s = v) (hO : Ob base w v l) (vx : Value) (m : List Nat) (hx : a.eval x = vx) (hL : Bs w vx m)
    (hlen : l.length + m.length ≤ 1073741824) (hbase : base ≤ w.heap.size)
    (h : ∀ v' w', Ob base w' v' (l ++ m) → Gw base w w' → wpList Tryd.prog ops Q rest (a.put o.dst v') w') : wpList Tryd.prog ops Q (o :: rest) a w := by
  obtain ⟨i0, hti, hi0, hi1, hi2⟩ := byteInfo
  obtain ⟨ad, cap, e, h1, h2⟩ := hL.len
  subst e
  cases ad with
  | none =>
    obtain ⟨e0, e1⟩ := Ls.nil hL
    obtain rfl : m = [] := List.eq_nil_of_length_eq_zero e0
    subst e1
    refine wpList_append_own_none hgd s x 22 ho base 5 i0 1 Tryd.underlying22 hti v _ _ hs hO hx ?_
    refine h v w ?_ ⟨fun _ h => h, Nat.le_refl _⟩
    rw [List.append_nil]; exact hO
  | some ad =>
    have hnews := ls_news hL
    refine wpList_append_own w hgd s x 22 ho base 5 i0 (.int .u8 0) 1 1 Tryd.underlying22 hti hi0 hi1 hi2 rfl (by decide) v l.length (b8 l) hs hO ad m.length cap (b8 m) hx (by rw [b8_len, Nat.mul_one]) (by rw [← vl_b8]; exact hnews) (b8_one m) (by unfold maxLen; omega) (by omega) hbase ?_
    intro v' w' hown hg _
    refine h v' w' ?_ ⟨fun w0 hb => hb.grown hg hbase (fun k hk => (hO.lt k hk).1), hg.size⟩
    unfold Ob
    rw [List.length_append, b8_app]
    exact hown
/-- A list of one's own grows by numbers. -/
theorem apI {ops : Array Oper} {rest : List Oper} {o : Oper} {a : Act} {w : World} {Q : Exit → Act → World → Prop} (hgd : o.guard = none) (s x : Operand)
    (ho : o.op = .call { callee := .builtin .append, args := #[s, x], argTypes := #[88, 88] })
    (base : Nat) (v : Value) (l : List Int) (hs : a.eval s = v) (hO : Oi base w v l) (vx : Value) (m : List Int) (hx : a.eval x = vx) (hL : Is w vx m)
    (hlen : l.length + m.length ≤ 1073741824) (hbase : base ≤ w.heap.size)
    (h : ∀ v' w', Oi base w' v' (l ++ m) → Gw base w w' → wpList Tryd.prog ops Q rest (a.put o.dst v') w') : wpList Tryd.prog ops Q (o :: rest) a w := by
  obtain ⟨i0, hti, hi0, hi1, hi2⟩ := i64Info
  obtain ⟨ad, cap, e, h1, h2⟩ := hL.len
  subst e
  cases ad with
  | none =>
    obtain ⟨e0, e1⟩ := Ls.nil hL
    obtain rfl : m = [] := List.eq_nil_of_length_eq_zero e0
    subst e1
    refine wpList_append_own_none hgd s x 88 ho base 3 i0 1 Tryd.underlying88 hti v _ _ hs hO hx ?_
    refine h v w ?_ ⟨fun _ h => h, Nat.le_refl _⟩
    rw [List.append_nil]; exact hO
  | some ad =>
    have hnews := ls_news hL
    refine wpList_append_own w hgd s x 88 ho base 3 i0 (.int .i64 0) 1 8 Tryd.underlying88 hti hi0 hi1 hi2 rfl (by decide) v l.length (i6 l) hs hO ad m.length cap (i6 m) hx (by rw [i6_len, Nat.mul_one]) (by rw [← vl_i6]; exact hnews) (i6_one m) (by unfold maxLen; omega) (by omega) hbase ?_
    intro v' w' hown hg _
    refine h v' w' ?_ ⟨fun w0 hb => hb.grown hg hbase (fun k hk => (hO.lt k hk).1), hg.size⟩
    unfold Oi
    rw [List.length_append, i6_app]
    exact hown
theorem wp_append_own_none {P : Program} {w : World} {o : Oper} {a : Act} {K : Act → World → Prop} {Q : Exit → Act → World → Prop} (s x : Operand) (t : TypeId)
    (ho : o.op = .call { callee := .builtin .append, args := #[s, x], argTypes := #[t, t] })
    (base : Nat) (e : TypeId) (i : TypeInfo) (size : Nat) (ht : P.underlying t = some (.slice e)) (hi : P.info? e = some i)
    (v : Value) (n : Nat) (xs : List Value) (hs : a.eval s = v) (hown : w.ownsRow base e size v n xs) (hx : a.eval x = .slice none 0 0)
    (h : K (a.put o.dst v) w) : o.wp P a w K Q := by
  have hrun := run_append_owned_none (P := P) (w := w) base t o.type e i size ht hi v n xs hown
  unfold Oper.wp
  simp [execOp, ho, resolve, invoke, builtin, hs, hx, hrun, Result.andThen]
  exact h
theorem apB_op {o : Oper} {a : Act} {w : World} {K : Act → World → Prop} {Q : Exit → Act → World → Prop} (s x : Operand)
    (ho : o.op = .call { callee := .builtin .append, args := #[s, x], argTypes := #[22, 22] })
    (base : Nat) (v : Value) (l : List Nat) (hs : a.eval s = v) (hO : Ob base w v l) (vx : Value) (m : List Nat) (hx : a.eval x = vx) (hL : Bs w vx m)
    (hlen : l.length + m.length ≤ 1073741824) (hbase : base ≤ w.heap.size)
    (h : ∀ v' w', Ob base w' v' (l ++ m) → Gw base w w' → K (a.put o.dst v') w') : o.wp Tryd.prog a w K Q := by
  obtain ⟨i0, hti, hi0, hi1, hi2⟩ := byteInfo
  obtain ⟨ad, cap, e, h1, h2⟩ := hL.len
  subst e
  cases ad with
  | none =>
    obtain ⟨e0, e1⟩ := Ls.nil hL
    obtain rfl : m = [] := List.eq_nil_of_length_eq_zero e0
    subst e1
    refine wp_append_own_none s x 22 ho base 5 i0 1 Tryd.underlying22 hti v _ _ hs hO hx ?_
    refine h v w ?_ ⟨fun _ h => h, Nat.le_refl _⟩
    rw [List.append_nil]; exact hO
  | some ad =>
    have hnews := ls_news hL
    refine wp_append_own w s x 22 ho base 5 i0 (.int .u8 0) 1 1 Tryd.underlying22 hti hi0 hi1 hi2 rfl (by decide) v l.length (b8 l) hs hO ad m.length cap (b8 m) hx (by rw [b8_len, Nat.mul_one]) (by rw [← vl_b8]; exact hnews) (b8_one m) (by unfold maxLen; omega) (by omega) hbase ?_
    intro v' w' hown hg _
    refine h v' w' ?_ ⟨fun w0 hb => hb.grown hg hbase (fun k hk => (hO.lt k hk).1), hg.size⟩
    unfold Ob
    rw [List.length_append, b8_app]
    exact hown
/-- A part of a text. -/
def sv (ad : Option Addr) (p q cap : Nat) : Value := .slice (if cap = p then ad else ad.map (·.add p)) (q - p) (cap - p)
theorem slice_run (w : World) (ad : Option Addr) (n cap p q : Nat) (h1 : p ≤ q) (h2 : q ≤ cap) :
    (Instr.slice 22 (.slice ad n cap) (some (.int .i64 (p : Int))) (some (.int .i64 (q : Int))) none).run Tryd.prog w = .ok (sv ad p q cap) w := by
  have ht : Tryd.prog.underlying 22 = some (.slice (Tryd.prog.elem 22)) := by kernel_rfl
  have hs : (sizeOf (Tryd.prog.elem 22)).run Tryd.prog w = .ok 1 w := by
    obtain ⟨i0, hti, hi0, hi1, hi2⟩ := byteInfo
    have e : Tryd.prog.elem 22 = 5 := by kernel_rfl
    rw [e]
    simp [sizeOf, typeInfo, hti, hi1]
  rw [run_slice_lh w 22 ad n cap ht .i64 .i64 (p : Int) (q : Int) (by omega) (by omega) (by omega), hs]
  simp [Result.andThen, sliced, sv]
theorem sliceAt_run (w : World) (ad : Option Addr) (n cap p q : Nat) (h1 : p ≤ q) (h2 : q ≤ cap) :
    (Instr.sliceAt 22 (.slice ad n cap) (some (.int .i64 (p : Int))) (some (.int .i64 (q : Int))) none).run Tryd.prog w = .ok (sv ad p q cap) w := by
  have ht : Tryd.prog.underlying 22 = some (.slice (Tryd.prog.elem 22)) := by kernel_rfl
  rw [run_sliceAt_slice _ _ _ _ _ _ ht, slice_run w ad n cap p q h1 h2]
theorem sv_bs {w : World} {ad : Option Addr} {n cap : Nat} {l : List Nat} (h : Bs w (.slice ad n cap) l) (p q : Nat) (h1 : p ≤ q) (h2 : q ≤ l.length) : Bs w (sv ad p q cap) ((l.drop p).take (q - p)) := by
  obtain ⟨adr, c, b, o, e, h3, h4, h5, h6⟩ := h
  injection e with e1 e2 e3
  subst e1 e3
  have hl : ((l.drop p).take (q - p)).length = q - p := by rw [List.length_take, List.length_drop]; omega
  refine ⟨_, cap - p, b, o + p, by rw [hl]; rfl, by rw [hl]; omega, ⟨by omega, ?_⟩, ?_, ?_⟩
  · intro e
    by_cases q : cap = p
    · omega
    · rw [if_neg q] at e
      have : ad = none := by cases ad with
        | none => rfl
        | some a => cases e
      have := h4.2 this
      omega
  · intro hp
    rw [hl] at hp
    have e := h5 (by omega)
    rw [if_neg (by omega), e]
    simp [Addr.add]
  · intro k hk
    rw [hl] at hk
    rw [show o + p + k = o + (p + k) by omega, h6 (p + k) (by omega)]
    unfold b8f
    congr 3
    simp [List.getD, List.getElem?_take, hk]
/-- All old blocks but some are as they were. -/
structure Kp (F : Nat → Prop) (w w' : World) : Prop where
  os : w'.os = w.os
  tape : w'.tape = w.tape
  output : w'.output = w.output
  size : w.heap.size ≤ w'.heap.size
  block : ∀ k, k < w.heap.size → ¬ F k → w'.heap[k]? = w.heap[k]?
theorem Kp.refl (F : Nat → Prop) (w : World) : Kp F w w := ⟨rfl, rfl, rfl, Nat.le_refl _, fun _ _ _ => rfl⟩
theorem Kp.of {F : Nat → Prop} {w w' : World} (h : Below w.heap.size w w') : Kp F w w' := ⟨h.os, h.tape, h.output, h.size, fun k hk _ => h.block k hk⟩
theorem Kp.trans {F G : Nat → Prop} {a b c : World} (h : Kp F a b) (k : Kp G b c) (hG : ∀ i, G i → F i ∨ a.heap.size ≤ i) : Kp F a c :=
  ⟨k.os.trans h.os, k.tape.trans h.tape, k.output.trans h.output, Nat.le_trans h.size k.size, fun i hi hn => (k.block i (Nat.lt_of_lt_of_le hi h.size) (fun q => by rcases hG i q with q | q; exact hn q; omega)).trans (h.block i hi hn)⟩
theorem Kp.mono {F G : Nat → Prop} {w w' : World} (h : Kp F w w') (hG : ∀ i, F i → G i) : Kp G w w' := ⟨h.os, h.tape, h.output, h.size, fun i hi hn => h.block i hi (fun q => hn (hG i q))⟩
theorem Kp.below {F : Nat → Prop} {w w' : World} (h : Kp F w w') {B : Nat} (hF : ∀ i, F i → B ≤ i) (hB : B ≤ w.heap.size) : Below B w w' :=
  ⟨h.os, h.tape, h.output, h.size, fun i hi => h.block i (by omega) (fun q => by have := hF i q; omega)⟩
theorem Kp.next {F : Nat → Prop} {w0 w w' : World} (h : Kp F w w') {B : Nat} (hb : Below B w0 w) (hF : ∀ i, F i → B ≤ i) (hB : B ≤ w.heap.size) : Below B w0 w' := hb.trans (h.below hF hB)
theorem Kp.set {F : Nat → Prop} {a w : World} (h : Kp F a w) {p : Addr} (hp : F p.block ∨ a.heap.size ≤ p.block) (u : Value) : Kp F a (w.setCell p u) :=
  ⟨h.os, h.tape, h.output, by rw [World.size_setCell]; exact h.size, fun i hi hn => (Below.heap_setCell _ _ _ _ (fun e => by subst e; rcases hp with q | q; exact hn q; omega)).trans (h.block i hi hn)⟩
theorem Kp.alloc {F : Nat → Prop} {a w : World} (h : Kp F a w) (o : Obj) : Kp F a (w.alloc o) :=
  ⟨h.os, h.tape, h.output, by rw [World.size_alloc]; have := h.size; omega, fun i hi hn => (Below.heap_alloc _ _ _ (by have := h.size; omega)).trans (h.block i hi hn)⟩
theorem Kp.drew {F : Nat → Prop} {a w : World} (h : Kp F a w) : Kp F a w.drew := ⟨h.os, h.tape, h.output, h.size, h.block⟩
theorem Kp.cell {F : Nat → Prop} {w w' : World} (h : Kp F w w') {a : Addr} {v : Value} (hn : ¬ F a.block) (hc : w.cell? a = some v) : w'.cell? a = some v :=
  (World.cell?_of_block (w := w) (h.block _ (World.block_lt_of_cell? _ _ hc) hn)).trans hc
theorem Kp.frozen {F : Nat → Prop} {w w' : World} (h : Kp F w w') {a : Addr} {v : Value} (hn : ¬ F a.block) (hc : w.cell? a = some v) (hf : w.frozen? a = false) : w'.frozen? a = false :=
  (World.frozen?_of_block (w := w) (h.block _ (World.block_lt_of_cell? _ _ hc) hn)).trans hf
theorem Kp.grow {F : Nat → Prop} {a w w' : World} (h : Kp F a w) {B : Nat} (hb : Below B w w') (hB : a.heap.size ≤ B) : Kp F a w' :=
  ⟨hb.os.trans h.os, hb.tape.trans h.tape, hb.output.trans h.output, Nat.le_trans h.size hb.size, fun i hi hn => (hb.block i (by omega)).trans (h.block i hi hn)⟩
theorem own_kp {F : Nat → Prop} {w w' : World} {B : Nat} {e : TypeId} {s : Nat} {v : Value} {n : Nat} {xs : List Value} (h : w.ownsRow B e s v n xs) (k : Kp F w w') (hF : ∀ i, F i → i < B) : w'.ownsRow B e s v n xs := by
  refine ⟨h.1, ?_⟩
  rcases h.2 with h0 | ⟨g, cap, cur, hv, hg, hh, r⟩
  · exact Or.inl h0
  · exact Or.inr ⟨g, cap, cur, hv, hg, (k.block g (Array.getElem?_eq_some_iff.1 hh).1 (fun q => by have := hF g q; omega)).trans hh, r⟩
/-- A list whose block is none of these. -/
def Nf (F : Nat → Prop) (v : Value) : Prop := ∀ (a : Addr) (n cap : Nat), v = .slice (some a) n cap → 0 < n → ¬ F a.block
theorem Kp.ls {F : Nat → Prop} {w w' : World} (h : Kp F w w') {v : Value} {n : Nat} {g : Nat → Value} (l : Ls w v n g) (hn : Nf F v) : Ls w' v n g := by
  obtain ⟨adr, cap, q, o, rfl, h2, h3, h4, h5⟩ := l
  refine ⟨adr, cap, q, o, rfl, h2, h3, h4, fun k hk => ?_⟩
  have e := h4 (by omega)
  subst e
  exact h.cell (hn ⟨q, o, none⟩ n cap rfl (by omega)) (h5 k hk)
theorem Kp.bs {F : Nat → Prop} {w w' : World} (h : Kp F w w') {v : Value} {l : List Nat} (hl : Bs w v l) (hn : Nf F v) : Bs w' v l := h.ls hl hn
theorem Kp.is {F : Nat → Prop} {w w' : World} (h : Kp F w w') {v : Value} {l : List Int} (hl : Is w v l) (hn : Nf F v) : Is w' v l := h.ls hl hn
theorem ow_nf {F : Nat → Prop} {B : Nat} {v : Value} (h : Ow B v) (hF : ∀ i, F i → i < B) : Nf F v := fun a n cap e hn q => by have := h a n cap e hn; have := hF _ q; omega
theorem Ls.nf {w : World} {v : Value} {n : Nat} {h : Nat → Value} (l : Ls w v n h) {F : Nat → Prop} (hF : ∀ i, F i → w.heap.size ≤ i) : Nf F v := by
  obtain ⟨adr, cap, b, o, rfl, h2, h3, h4, h5⟩ := l
  intro a n' cap' e hn q
  have e2 := h4 (by cases e; exact hn)
  subst e2
  cases e
  have h6 : b < w.heap.size := World.block_lt_of_cell? _ _ (h5 0 hn)
  have := hF _ q
  dsimp only at this
  omega
/-- A list whose block is below. -/
def Lo (B : Nat) (v : Value) : Prop := ∀ (a : Addr) (n cap : Nat), v = .slice (some a) n cap → 0 < n → a.block < B
theorem Ls.lo {w : World} {v : Value} {n : Nat} {h : Nat → Value} (l : Ls w v n h) : Lo w.heap.size v := by
  obtain ⟨adr, cap, b, o, rfl, h2, h3, h4, h5⟩ := l
  intro a n' cap' e hn
  have e2 := h4 (by cases e; exact hn)
  subst e2
  cases e
  exact World.block_lt_of_cell? _ _ (h5 0 hn)
theorem Lo.up {B B' : Nat} {v : Value} (h : Lo B v) (hl : B ≤ B') : Lo B' v := fun a n cap e hn => Nat.lt_of_lt_of_le (h a n cap e hn) hl
theorem Ls.upto {B : Nat} {w w' : World} {v : Value} {n : Nat} {h : Nat → Value} (l : Ls w v n h) (hb : Below B w w') (hv : Lo B v) : Ls w' v n h := by
  obtain ⟨adr, cap, q, o, rfl, h2, h3, h4, h5⟩ := l
  refine ⟨adr, cap, q, o, rfl, h2, h3, h4, fun k hk => ?_⟩
  have e := h4 (by omega)
  subst e
  exact (hb.cell (p := ⟨q, o + k, none⟩) (hv ⟨q, o, none⟩ n cap rfl (by omega))).trans (h5 k hk)
/-- What a call with an object leaves of what is its own. -/
def Gr (F F' : Nat → Prop) (w : World) : Prop := ∀ k, F' k → F k ∨ w.heap.size ≤ k
theorem getD_drop {α : Type} (l : List α) (d : α) (n k : Nat) : (l.drop n).getD k d = l.getD (n + k) d := by
  simp [List.getD, List.getElem?_drop]
theorem drop_cons {l : List Nat} {n : Nat} (h : n < l.length) : l.drop n = l.getD n 0 :: l.drop (n + 1) := by
  rw [List.drop_eq_getElem_cons h]
  simp [List.getD, h]
theorem getD_byte {l : List Nat} (hb : ∀ c ∈ l, c < 256) (k : Nat) : l.getD k 0 < 256 := by
  by_cases h : k < l.length
  · have : l.getD k 0 = l[k] := by simp [List.getD, h]
    rw [this]
    exact hb _ (List.getElem_mem h)
  · have : l.getD k 0 = 0 := by simp [List.getD, h]
    omega
end Go.Proofs.YtfcbgkcclganmaaDoor
set_option linter.unusedVariables false
namespace Go.Proofs.YtfcbgkcclganmaaDoor

/-- The text, so many of the run's bits turned. -/
def bF (f : Nat → Nat) (p x : Nat) : Nat → Nat → Nat
  | 0 => f
  | j + 1 => if x.testBit j = true then (fun q => if q = (p + j) / 8 then bF f p x j q ^^^ 2 ^ ((p + j) % 8) else bF f p x j q) else bF f p x j
theorem bF_lt (f : Nat → Nat) (p x : Nat) (hf : ∀ k, f k < 256) (j : Nat) : ∀ k, bF f p x j k < 256 := by
  induction j with
  | zero => exact hf
  | succ j ih =>
    intro k
    show (if x.testBit j = true then (fun q => if q = (p + j) / 8 then bF f p x j q ^^^ 2 ^ ((p + j) % 8) else bF f p x j q) else bF f p x j) k < 256
    split
    · dsimp only
      split
      · refine Nat.xor_lt_two_pow (n := 8) (ih k) (Nat.pow_lt_pow_right (by omega) (by omega))
      · exact ih k
    · exact ih k
theorem pow_bit (e i : Nat) (he : e < 8) (hi : i < 8) : 2 ^ e / 2 ^ i % 2 = if i = e then 1 else 0 := by
  have : ∀ e i : Fin 8, 2 ^ e.1 / 2 ^ i.1 % 2 = if i.1 = e.1 then 1 else 0 := by decide
  exact this ⟨e, he⟩ ⟨i, hi⟩
theorem bF_bits (f : Nat → Nat) (p x j q : Nat) : cBt (bF f p x j) q = cBt f q ^^^ (if p ≤ q ∧ q < p + j then (x.testBit (q - p)).toNat else 0) := by
  induction j with
  | zero =>
    rw [if_neg (by omega), Nat.xor_zero]
    rfl
  | succ j ih =>
    by_cases hb : x.testBit j = true
    · have e : bF f p x (j + 1) = fun i => bF f p x j i ^^^ (if i = (p + j) / 8 then 2 ^ ((p + j) % 8) else 0) := by
        show (if x.testBit j = true then _ else _) = _
        rw [if_pos hb]
        funext i
        by_cases hi : i = (p + j) / 8
        · rw [if_pos hi, if_pos hi]
        · rw [if_neg hi, if_neg hi, Nat.xor_zero]
      rw [e, cBt_xor, ih]
      have h : cBt (fun i => if i = (p + j) / 8 then 2 ^ ((p + j) % 8) else 0) q = if q = p + j then 1 else 0 := by
        show (if q / 8 = (p + j) / 8 then 2 ^ ((p + j) % 8) else 0) / 2 ^ (q % 8) % 2 = _
        by_cases h8 : q / 8 = (p + j) / 8
        · rw [if_pos h8, pow_bit _ _ (by omega) (by omega)]
          by_cases hq : q = p + j
          · rw [if_pos (by omega), if_pos hq]
          · rw [if_neg (by omega), if_neg hq]
        · rw [if_neg h8, if_neg (by intro e; exact h8 (by rw [e]))]
          simp
      rw [h, Nat.xor_assoc]
      congr 1
      by_cases hq : q = p + j
      · rw [if_neg (by omega), if_pos hq, if_pos (by omega), Nat.zero_xor, hq, show p + j - p = j by omega, hb]
        rfl
      · rw [if_neg hq, Nat.xor_zero]
        by_cases h1 : p ≤ q ∧ q < p + j
        · rw [if_pos h1, if_pos (by omega)]
        · rw [if_neg h1, if_neg (by omega)]
    · have e : bF f p x (j + 1) = bF f p x j := by
        show (if x.testBit j = true then _ else _) = _
        rw [if_neg hb]
      rw [e, ih]
      congr 1
      by_cases hq : q = p + j
      · rw [if_neg (by omega), if_pos (by omega), hq, show p + j - p = j by omega]
        rw [Bool.not_eq_true] at hb
        rw [hb]
        rfl
      · by_cases h1 : p ≤ q ∧ q < p + j
        · rw [if_pos h1, if_pos (by omega)]
        · rw [if_neg h1, if_neg (by omega)]
theorem bF_step (f : Nat → Nat) (p x j k : Nat) (hb : x.testBit j = true) : (if k = (p + j) / 8 then bF f p x j ((p + j) / 8) ^^^ 2 ^ ((p + j) % 8) else bF f p x j k) = bF f p x (j + 1) k := by
  show _ = (if x.testBit j = true then (fun q => if q = (p + j) / 8 then bF f p x j q ^^^ 2 ^ ((p + j) % 8) else bF f p x j q) else bF f p x j) k
  rw [if_pos hb]
  by_cases h : k = (p + j) / 8
  · rw [if_pos h, if_pos h, h]
  · rw [if_neg h, if_neg h]
theorem bF_same (f : Nat → Nat) (p x j k : Nat) (hb : ¬ x.testBit j = true) : bF f p x (j + 1) k = bF f p x j k := by
  show (if x.testBit j = true then (fun q => if q = (p + j) / 8 then bF f p x j q ^^^ 2 ^ ((p + j) % 8) else bF f p x j q) else bF f p x j) k = _
  rw [if_neg hb]
end Go.Proofs.YtfcbgkcclganmaaDoor
set_option linter.unusedVariables false
set_option linter.unusedSimpArgs false
namespace Go.Proofs.YtfcbgkcclganmaaDoor

/-- A text's sum. -/
def sm (l : List Nat) : Nat := cS (fun k => l.getD k 0) l.length
theorem sm_lt (l : List Nat) : sm l < 4294967296 := cS_lt _ _
/-- Four bytes of a number, the lowest first. -/
def four (n : Nat) : List Nat := [n % 256, n / 256 % 256, n / 65536 % 256, n / 16777216]
theorem four_len (n : Nat) : (four n).length = 4 := rfl
theorem four_byte {n : Nat} (h : n < 4294967296) : ∀ c ∈ four n, c < 256 := by
  intro c hc
  simp only [four, List.mem_cons, List.not_mem_nil, or_false] at hc
  rcases hc with rfl | rfl | rfl | rfl <;> omega
theorem four_eq {n m : Nat} (h : four n = four m) : n = m := by
  simp only [four, List.cons.injEq, and_true] at h
  omega
/-- What stands ahead of the sum, and the frame. -/
def hd (k : Nat) (l : List Nat) : List Nat := 82 :: 71 :: 1 :: k :: (four l.length ++ l)
def fsl (k : Nat) (l : List Nat) : List Nat := hd k l ++ four (sm (hd k l))
theorem hd_len (k : Nat) (l : List Nat) : (hd k l).length = l.length + 8 := by simp [hd, four]
theorem seal_len (k : Nat) (l : List Nat) : (fsl k l).length = l.length + 12 := by simp [fsl, hd_len, four]
theorem hd_byte {k : Nat} {l : List Nat} (hk : k < 256) (hl : ∀ c ∈ l, c < 256) (hn : l.length < 4294967296) : ∀ c ∈ hd k l, c < 256 := by
  intro c hc
  simp only [hd, List.mem_cons, List.mem_append] at hc
  rcases hc with rfl | rfl | rfl | rfl | hc | hc
  · omega
  · omega
  · omega
  · exact hk
  · exact four_byte hn c hc
  · exact hl c hc
theorem seal_byte {k : Nat} {l : List Nat} (hk : k < 256) (hl : ∀ c ∈ l, c < 256) (hn : l.length < 4294967296) : ∀ c ∈ fsl k l, c < 256 := by
  intro c hc
  unfold fsl at hc
  rcases List.mem_append.1 hc with q | q
  · exact hd_byte hk hl hn c q
  · exact four_byte (sm_lt _) c q
/-- How many bytes a frame says that its payload has. -/
def nn (b : List Nat) : Nat := b.getD 4 0 + 256 * b.getD 5 0 + 65536 * b.getD 6 0 + 16777216 * b.getD 7 0
/-- The first error of the frame at the beginning, or 0. -/
def opE (b : List Nat) : Nat :=
  if b.length = 0 then 130 else if b.getD 0 0 ≠ 82 then 131 else if b.length ≤ 1 then 130 else if b.getD 1 0 ≠ 71 then 131 else if b.length ≤ 2 then 130 else if b.getD 2 0 ≠ 1 then 132 else if b.length ≤ 3 then 130 else if b.getD 3 0 = 0 then 133 else if b.length < 8 then 130 else if 65536 < nn b then 134 else if b.length < nn b + 12 then 130 else if four (sm (b.take (nn b + 8))) ≠ (b.drop (nn b + 8)).take 4 then 135 else 0
def opK (b : List Nat) : Nat := if opE b = 0 then b.getD 3 0 else 0
def opP (b : List Nat) : List Nat := if opE b = 0 then (b.drop 8).take (nn b) else []
def opN (b : List Nat) : Nat := if opE b = 0 then nn b + 12 else 0
/-- The four bytes ahead are right. -/
structure Hd4 (b : List Nat) : Prop where
  l : 3 < b.length
  b0 : b.getD 0 0 = 82
  b1 : b.getD 1 0 = 71
  b2 : b.getD 2 0 = 1
  b3 : b.getD 3 0 ≠ 0
theorem opE_l0 {b : List Nat} (h : b.length = 0) : opE b = 130 := by unfold opE; rw [if_pos h]
theorem opE_b0 {b : List Nat} (h : 0 < b.length) (h2 : b.getD 0 0 ≠ 82) : opE b = 131 := by unfold opE; rw [if_neg (by omega), if_pos h2]
theorem opE_l1 {b : List Nat} (h : b.length = 1) (h2 : b.getD 0 0 = 82) : opE b = 130 := by unfold opE; rw [if_neg (by omega), if_neg (by omega), if_pos (by omega)]
theorem opE_b1 {b : List Nat} (h : 1 < b.length) (h2 : b.getD 0 0 = 82) (h3 : b.getD 1 0 ≠ 71) : opE b = 131 := by unfold opE; rw [if_neg (by omega), if_neg (by omega), if_neg (by omega), if_pos h3]
theorem opE_l2 {b : List Nat} (h : b.length = 2) (h2 : b.getD 0 0 = 82) (h3 : b.getD 1 0 = 71) : opE b = 130 := by unfold opE; rw [if_neg (by omega), if_neg (by omega), if_neg (by omega), if_neg (by omega), if_pos (by omega)]
theorem opE_b2 {b : List Nat} (h : 2 < b.length) (h2 : b.getD 0 0 = 82) (h3 : b.getD 1 0 = 71) (h4 : b.getD 2 0 ≠ 1) : opE b = 132 := by unfold opE; rw [if_neg (by omega), if_neg (by omega), if_neg (by omega), if_neg (by omega), if_neg (by omega), if_pos h4]
theorem opE_l3 {b : List Nat} (h : b.length = 3) (h2 : b.getD 0 0 = 82) (h3 : b.getD 1 0 = 71) (h4 : b.getD 2 0 = 1) : opE b = 130 := by unfold opE; rw [if_neg (by omega), if_neg (by omega), if_neg (by omega), if_neg (by omega), if_neg (by omega), if_neg (by omega), if_pos (by omega)]
theorem opE_b3 {b : List Nat} (h : 3 < b.length) (h2 : b.getD 0 0 = 82) (h3 : b.getD 1 0 = 71) (h4 : b.getD 2 0 = 1) (h5 : b.getD 3 0 = 0) : opE b = 133 := by unfold opE; rw [if_neg (by omega), if_neg (by omega), if_neg (by omega), if_neg (by omega), if_neg (by omega), if_neg (by omega), if_neg (by omega), if_pos h5]
theorem opE_four {b : List Nat} (h : Hd4 b) : opE b = if b.length < 8 then 130 else if 65536 < nn b then 134 else if b.length < nn b + 12 then 130 else if four (sm (b.take (nn b + 8))) ≠ (b.drop (nn b + 8)).take 4 then 135 else 0 := by
  have h1 := h.l
  have h2 := h.b0
  have h3 := h.b1
  have h4 := h.b2
  have h5 := h.b3
  conv => lhs; unfold opE
  rw [if_neg (by omega), if_neg (by omega), if_neg (by omega), if_neg (by omega), if_neg (by omega), if_neg (by omega), if_neg (by omega), if_neg (by omega)]
theorem opE_l8 {b : List Nat} (h : Hd4 b) (h2 : b.length < 8) : opE b = 130 := by rw [opE_four h, if_pos h2]
theorem opE_n {b : List Nat} (h : Hd4 b) (h2 : 8 ≤ b.length) (h3 : 65536 < nn b) : opE b = 134 := by rw [opE_four h, if_neg (by omega), if_pos h3]
theorem opE_ln {b : List Nat} (h : Hd4 b) (h2 : 8 ≤ b.length) (h3 : nn b ≤ 65536) (h4 : b.length < nn b + 12) : opE b = 130 := by rw [opE_four h, if_neg (by omega), if_neg (by omega), if_pos h4]
theorem opE_s {b : List Nat} (h : Hd4 b) (h3 : nn b ≤ 65536) (h4 : nn b + 12 ≤ b.length) (h5 : four (sm (b.take (nn b + 8))) ≠ (b.drop (nn b + 8)).take 4) : opE b = 135 := by rw [opE_four h, if_neg (by omega), if_neg (by omega), if_neg (by omega), if_pos h5]
theorem opE_ok {b : List Nat} (h : Hd4 b) (h3 : nn b ≤ 65536) (h4 : nn b + 12 ≤ b.length) (h5 : four (sm (b.take (nn b + 8))) = (b.drop (nn b + 8)).take 4) : opE b = 0 := by rw [opE_four h, if_neg (by omega), if_neg (by omega), if_neg (by omega), if_neg (fun q => q h5)]
theorem op_no {b : List Nat} {e : Nat} (h : opE b = e) (he : e ≠ 0) : opK b = 0 ∧ opP b = [] ∧ opN b = 0 := by
  unfold opK opP opN
  rw [if_neg (by omega), if_neg (by omega), if_neg (by omega)]
  exact ⟨rfl, rfl, rfl⟩
theorem op_yes {b : List Nat} (h : opE b = 0) : opK b = b.getD 3 0 ∧ opP b = (b.drop 8).take (nn b) ∧ opN b = nn b + 12 := by
  unfold opK opP opN
  rw [if_pos h, if_pos h, if_pos h]
  exact ⟨rfl, rfl, rfl⟩
/-- A frame, and anything behind it. -/
theorem seal_eight (k : Nat) (l t : List Nat) : fsl k l ++ t = 82 :: 71 :: 1 :: k :: (l.length % 256) :: (l.length / 256 % 256) :: (l.length / 65536 % 256) :: (l.length / 16777216) :: (l ++ (four (sm (hd k l)) ++ t)) := by
  simp [fsl, hd, four]
theorem nn_eight (a b c d e f g h : Nat) (t : List Nat) : nn (a :: b :: c :: d :: e :: f :: g :: h :: t) = e + 256 * f + 65536 * g + 16777216 * h := rfl
theorem nn_seal (k : Nat) (l t : List Nat) : nn (fsl k l ++ t) = l.length := by
  rw [seal_eight, nn_eight]
  omega
theorem hd4_seal {k : Nat} (hk : k ≠ 0) (l t : List Nat) : Hd4 (fsl k l ++ t) := by
  rw [seal_eight]
  exact ⟨by simp, rfl, rfl, rfl, hk⟩
theorem take_hd (k : Nat) (l t : List Nat) : (fsl k l ++ t).take (l.length + 8) = hd k l := by
  unfold fsl
  rw [List.append_assoc, ← hd_len k l]
  exact List.take_left' rfl
theorem drop_hd (k : Nat) (l t : List Nat) : (fsl k l ++ t).drop (l.length + 8) = four (sm (hd k l)) ++ t := by
  unfold fsl
  rw [List.append_assoc, ← hd_len k l]
  exact List.drop_left' rfl
theorem opE_seal {k : Nat} (hk : k ≠ 0) (l t : List Nat) (hl : l.length ≤ 65536) : opE (fsl k l ++ t) = 0 := by
  refine opE_ok (hd4_seal hk l t) (by rw [nn_seal]; exact hl) ?_ ?_
  · rw [nn_seal, List.length_append, seal_len]; omega
  · rw [nn_seal, take_hd, drop_hd]
    rfl
theorem op_seal {k : Nat} (hk : k ≠ 0) (l t : List Nat) (hl : l.length ≤ 65536) : opK (fsl k l ++ t) = k ∧ opP (fsl k l ++ t) = l ∧ opN (fsl k l ++ t) = l.length + 12 := by
  obtain ⟨h1, h2, h3⟩ := op_yes (opE_seal hk l t hl)
  rw [h1, h2, h3, nn_seal]
  refine ⟨by rw [seal_eight]; rfl, ?_, rfl⟩
  rw [seal_eight]
  show List.take l.length (l ++ _) = l
  exact List.take_left' rfl
theorem prefix_get {q b : List Nat} (h : q <+: b) {i : Nat} (hi : i < q.length) : q.getD i 0 = b.getD i 0 := by
  obtain ⟨t, rfl⟩ := h
  simp [List.getD, List.getElem?_append, hi]
/-- Cut off it is short. -/
theorem opE_cut {k : Nat} (hk : k ≠ 0) (l q : List Nat) (hl : l.length ≤ 65536) (h1 : q <+: fsl k l) (h2 : q.length < (fsl k l).length) : opE q = 130 := by
  have hs := hd4_seal hk l []
  rw [List.append_nil] at hs
  have hn := nn_seal k l []
  rw [List.append_nil] at hn
  have g : ∀ i, i < q.length → q.getD i 0 = (fsl k l).getD i 0 := fun i hi => prefix_get h1 hi
  rw [seal_len] at h2
  by_cases a0 : q.length = 0
  · exact opE_l0 a0
  by_cases a1 : q.length = 1
  · exact opE_l1 a1 (by rw [g 0 (by omega)]; exact hs.b0)
  by_cases a2 : q.length = 2
  · exact opE_l2 a2 (by rw [g 0 (by omega)]; exact hs.b0) (by rw [g 1 (by omega)]; exact hs.b1)
  by_cases a3 : q.length = 3
  · exact opE_l3 a3 (by rw [g 0 (by omega)]; exact hs.b0) (by rw [g 1 (by omega)]; exact hs.b1) (by rw [g 2 (by omega)]; exact hs.b2)
  have hq : Hd4 q := ⟨by omega, by rw [g 0 (by omega)]; exact hs.b0, by rw [g 1 (by omega)]; exact hs.b1, by rw [g 2 (by omega)]; exact hs.b2, by rw [g 3 (by omega)]; exact hs.b3⟩
  by_cases a8 : q.length < 8
  · exact opE_l8 hq a8
  · have hnq : nn q = l.length := by
      rw [← hn]
      unfold nn
      rw [g 4 (by omega), g 5 (by omega), g 6 (by omega), g 7 (by omega)]
    exact opE_ln hq (by omega) (by omega) (by omega)
/-- A run of turned bits changes no byte but those that it lies in. -/
theorem bF_far (f : Nat → Nat) (p x k : Nat) : ∀ j, (∀ i, i < j → x.testBit i = true → (p + i) / 8 ≠ k) → bF f p x j k = f k := by
  intro j
  induction j with
  | zero => intro _; rfl
  | succ j ih =>
    intro h
    have hi := ih (fun i hi => h i (by omega))
    by_cases hb : x.testBit j = true
    · rw [← bF_step f p x j k hb, if_neg (fun e => h j (by omega) hb e.symm), hi]
    · rw [bF_same f p x j k hb, hi]
/-- Turned bits in a payload are told by the sum. -/
theorem opE_flip {k : Nat} (hk : k ≠ 0) (l : List Nat) (hl : l.length ≤ 65536) (b : List Nat) (hb : b.length = l.length + 12) (p x : Nat) (hx : x < 4294967296) (hx0 : x ≠ 0) (hp : p < 8 * l.length) (hin : ∀ i, i < 32 → x.testBit i = true → p + i < 8 * l.length)
    (hg : ∀ i, i < l.length + 12 → b.getD i 0 = bF (fun i => (fsl k l).getD i 0) (64 + p) x 32 i) : opE b = 135 := by
  have hs := hd4_seal hk l []
  rw [List.append_nil] at hs
  have hn := nn_seal k l []
  rw [List.append_nil] at hn
  have far : ∀ i, i < 8 ∨ l.length + 8 ≤ i → bF (fun i => (fsl k l).getD i 0) (64 + p) x 32 i = (fsl k l).getD i 0 := fun i hi => bF_far _ _ _ _ 32 (fun j hj hj2 => by have := hin j hj hj2; omega)
  have g : ∀ i, i < l.length + 12 → (i < 8 ∨ l.length + 8 ≤ i) → b.getD i 0 = (fsl k l).getD i 0 := fun i hi h => by rw [hg i hi, far i h]
  have hq : Hd4 b := ⟨by omega, by rw [g 0 (by omega) (by omega)]; exact hs.b0, by rw [g 1 (by omega) (by omega)]; exact hs.b1, by rw [g 2 (by omega) (by omega)]; exact hs.b2, by rw [g 3 (by omega) (by omega)]; exact hs.b3⟩
  have hnb : nn b = l.length := by
    rw [← hn]
    unfold nn
    rw [g 4 (by omega) (by omega), g 5 (by omega) (by omega), g 6 (by omega) (by omega), g 7 (by omega) (by omega)]
  refine opE_s hq (by omega) (by omega) ?_
  rw [hnb]
  have hd2 : (b.drop (l.length + 8)).take 4 = four (sm (hd k l)) := by
    have e := drop_hd k l []
    rw [List.append_nil, List.append_nil] at e
    rw [← e]
    apply List.ext_getElem
    · rw [List.length_take, List.length_drop, List.length_drop, seal_len]; omega
    · intro i h1 h2
      rw [List.length_take, List.length_drop] at h1
      have := g (l.length + 8 + i) (by omega) (by omega)
      simp only [List.getElem_take, List.getElem_drop]
      simpa [List.getD, show l.length + 8 + i < b.length by omega, show l.length + 8 + i < (fsl k l).length by rw [seal_len]; omega] using this
  rw [hd2]
  intro e
  have e2 := four_eq e
  have htl : (b.take (l.length + 8)).length = l.length + 8 := by rw [List.length_take]; omega
  have hne := burst_text (fun i => (hd k l).getD i 0) (fun i => (b.take (l.length + 8)).getD i 0) (l.length + 8) (64 + p) x hx hx0 (by omega) (fun q hq => ?_) (fun i hi hi2 => by have := hin i hi hi2; omega)
  · unfold sm at e2
    rw [htl, hd_len] at e2
    exact hne e2.symm
  · have hq8 : q / 8 < l.length + 8 := by omega
    rw [← bF_bits]
    unfold cBt
    have a1 : (b.take (l.length + 8)).getD (q / 8) 0 = b.getD (q / 8) 0 := by simp [List.getD, List.getElem?_take, hq8]
    show (b.take (l.length + 8)).getD (q / 8) 0 / 2 ^ (q % 8) % 2 = _
    rw [a1, hg (q / 8) (by omega)]
    have a2 : ∀ j i, i < l.length + 8 → bF (fun i => (fsl k l).getD i 0) (64 + p) x j i = bF (fun i => (hd k l).getD i 0) (64 + p) x j i := by
      intro j
      induction j with
      | zero =>
        intro i hi
        show (fsl k l).getD i 0 = (hd k l).getD i 0
        unfold fsl
        simp [List.getD, List.getElem?_append, hd_len, hi]
      | succ j ih =>
        intro i hi
        by_cases hb : x.testBit j = true
        · rw [← bF_step _ _ _ _ _ hb, ← bF_step _ _ _ _ _ hb]
          by_cases e : i = (64 + p + j) / 8
          · rw [if_pos e, if_pos e, ih _ (by omega)]
          · rw [if_neg e, if_neg e, ih _ hi]
        · rw [bF_same _ _ _ _ _ hb, bF_same _ _ _ _ _ hb, ih _ hi]
    rw [a2 32 _ hq8]
end Go.Proofs.YtfcbgkcclganmaaDoor
