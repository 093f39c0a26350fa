/-
Layer 12's memory: lists of bytes and of numbers; lists of one's own that grow; what writes into some blocks alone.
A list of bytes of one's own grows by noughts (append of make).
-/
import Derived.Test.YtpmmfmlldkdfhaaDoorZ01
import Derived.Test.YtpmmfmlldkdfhaaDoorZ03
import Derived.Laws.AppendOwnNone
import Derived.Lib.AppendZeros
import Derived.Lib.AppendZerosOnto

set_option linter.unusedVariables false
set_option linter.unusedSimpArgs false
namespace Go.Proofs.YtpmmfmlldkdfhaaDoor
open Go.RowKit

def b8f (l : List Nat) : Nat → Value := fun k => .int .u8 ((l.getD k 0 : Nat) : Int)
def i6f (l : List Int) : Nat → Value := fun k => .int .i64 (l.getD k 0)
def b8 (l : List Nat) : List Value := l.map fun c : Nat => .int .u8 (c : Int)
def i6 (l : List Int) : List Value := l.map fun c => .int .i64 c
theorem b8_len (l : List Nat) : (b8 l).length = l.length := by simp [b8]
theorem i6_len (l : List Int) : (i6 l).length = l.length := by simp [i6]
theorem b8_app (l m : List Nat) : b8 (l ++ m) = b8 l ++ b8 m := by simp [b8]
theorem i6_app (l m : List Int) : i6 (l ++ m) = i6 l ++ i6 m := by simp [i6]
theorem vl_b8 (l : List Nat) : vl (b8f l) l.length = b8 l := by
  apply List.ext_getElem
  · rw [vl_len, b8_len]
  · intro k h1 h2
    rw [b8_len] at h2
    simp [vl, b8, b8f, List.getD, h2]
theorem vl_i6 (l : List Int) : vl (i6f l) l.length = i6 l := by
  apply List.ext_getElem
  · rw [vl_len, i6_len]
  · intro k h1 h2
    rw [i6_len] at h2
    simp [vl, i6, i6f, List.getD, h2]
theorem b8_one (l : List Nat) : ∀ u ∈ b8 l, u.oneCell' = true := by
  intro u hu
  unfold b8 at hu
  obtain ⟨k, _, rfl⟩ := List.mem_map.1 hu
  rfl
theorem i6_one (l : List Int) : ∀ u ∈ i6 l, u.oneCell' = true := by
  intro u hu
  unfold i6 at hu
  obtain ⟨k, _, rfl⟩ := List.mem_map.1 hu
  rfl
/-- A text in memory; numbers in memory. -/
def Bs (w : World) (v : Value) (l : List Nat) : Prop := Ls w v l.length (b8f l)
def Is (w : World) (v : Value) (l : List Int) : Prop := Ls w v l.length (i6f l)
theorem Bs.later {w w' : World} {v : Value} {l : List Nat} (h : Bs w v l) (hb : Below w.heap.size w w') : Bs w' v l := Ls.later h hb
theorem Is.later {w w' : World} {v : Value} {l : List Int} (h : Is w v l) (hb : Below w.heap.size w w') : Is w' v l := Ls.later h hb
/-- Lists of one's own. -/
def Ob (base : Nat) (w : World) (v : Value) (l : List Nat) : Prop := w.ownsRow base 5 1 v l.length (b8 l)
def Oi (base : Nat) (w : World) (v : Value) (l : List Int) : Prop := w.ownsRow base 3 1 v l.length (i6 l)
theorem Ob.bs {base : Nat} {w : World} {v : Value} {l : List Nat} (h : Ob base w v l) : Bs w v l ∧ Ow base v := by
  unfold Ob at h
  rw [← vl_b8] at h
  exact ls_of_own h
theorem Oi.is {base : Nat} {w : World} {v : Value} {l : List Int} (h : Oi base w v l) : Is w v l ∧ Ow base v := by
  unfold Oi at h
  rw [← vl_i6] at h
  exact ls_of_own h
theorem ob_nil (base : Nat) (w : World) : Ob base w (.slice none 0 0) [] := World.ownsRow_nil _ _ _ _
theorem oi_nil (base : Nat) (w : World) : Oi base w (.slice none 0 0) [] := World.ownsRow_nil _ _ _ _
theorem Ob.later {base : Nat} {w w' : World} {v : Value} {l : List Nat} (h : Ob base w v l) (hb : Below w.heap.size w w') : Ob base w' v l := own_later h hb
theorem Oi.later {base : Nat} {w w' : World} {v : Value} {l : List Int} (h : Oi base w v l) (hb : Below w.heap.size w w') : Oi base w' v l := own_later h hb
theorem Ob.sl {base : Nat} {w : World} {v : Value} {l : List Nat} (h : Ob base w v l) : ∃ ad cap, v = .slice ad l.length cap := own_sl h
theorem Oi.sl {base : Nat} {w : World} {v : Value} {l : List Int} (h : Oi base w v l) : ∃ ad cap, v = .slice ad l.length cap := own_sl h
theorem Ob.low {base base' : Nat} {w : World} {v : Value} {l : List Nat} (h : Ob base w v l) (hl : base' ≤ base) : Ob base' w v l := by
  refine ⟨h.1, ?_⟩
  rcases h.2 with h0 | ⟨g, cap, cur, hv, hg, hh, r⟩
  · exact Or.inl h0
  · exact Or.inr ⟨g, cap, cur, hv, Nat.le_trans hl hg, hh, r⟩
theorem Bs.at {w : World} {v : Value} {l : List Nat} (h : Bs w v l) (j : Nat) (hj : j < l.length) : ∃ (b o cap : Nat), v = .slice (some ⟨b, o, none⟩) l.length cap ∧ w.cell? ⟨b, o + j, none⟩ = some (.int .u8 ((l.getD j 0 : Nat) : Int)) := Ls.spot h j hj
theorem Is.at {w : World} {v : Value} {l : List Int} (h : Is w v l) (j : Nat) (hj : j < l.length) : ∃ (b o cap : Nat), v = .slice (some ⟨b, o, none⟩) l.length cap ∧ w.cell? ⟨b, o + j, none⟩ = some (.int .i64 (l.getD j 0)) := Ls.spot h j hj
theorem Bs.len {w : World} {v : Value} {l : List Nat} (h : Bs w v l) : ∃ (ad : Option Addr) (cap : Nat), v = .slice ad l.length cap ∧ l.length ≤ cap ∧ cap ≤ maxLen := Ls.len h
theorem Is.len {w : World} {v : Value} {l : List Int} (h : Is w v l) : ∃ (ad : Option Addr) (cap : Nat), v = .slice ad l.length cap ∧ l.length ≤ cap ∧ cap ≤ maxLen := Ls.len h
theorem Bs.cel {w : World} {ad : Option Addr} {n cap : Nat} {l : List Nat} (h : Bs w (.slice ad n cap) l) (j : Nat) (hj : j < l.length) : ∃ (b o : Nat), ad = some ⟨b, o, none⟩ ∧ w.cell? ⟨b, o + j, none⟩ = some (.int .u8 ((l.getD j 0 : Nat) : Int)) := by
  obtain ⟨b, o, c, e, hc⟩ := h.at j hj
  injection e with e1 e2 e3
  exact ⟨b, o, e1, hc⟩
theorem Is.cel {w : World} {ad : Option Addr} {n cap : Nat} {l : List Int} (h : Is w (.slice ad n cap) l) (j : Nat) (hj : j < l.length) : ∃ (b o : Nat), ad = some ⟨b, o, none⟩ ∧ w.cell? ⟨b, o + j, none⟩ = some (.int .i64 (l.getD j 0)) := by
  obtain ⟨b, o, c, e, hc⟩ := h.at j hj
  injection e with e1 e2 e3
  exact ⟨b, o, e1, hc⟩
theorem bs_one (w : World) (x : Nat) (t : TypeId) : Bs (w.alloc (.cells #[.int .u8 (x : Int)] t)) (.slice (some ⟨w.heap.size, 0, none⟩) 1 1) [x] :=
  ⟨_, 1, w.heap.size, 0, rfl, Nat.le_refl _, ⟨by unfold maxLen; omega, fun e => by cases e⟩, fun _ => rfl, fun k hk => by
    have hk0 : k < 1 := hk
    obtain rfl : k = 0 := by omega
    simp [go_sem, b8f]⟩
theorem is_one (w : World) (x : Int) (t : TypeId) : Is (w.alloc (.cells #[.int .i64 x] t)) (.slice (some ⟨w.heap.size, 0, none⟩) 1 1) [x] :=
  ⟨_, 1, w.heap.size, 0, rfl, Nat.le_refl _, ⟨by unfold maxLen; omega, fun e => by cases e⟩, fun _ => rfl, fun k hk => by
    have hk0 : k < 1 := hk
    obtain rfl : k = 0 := by omega
    simp [go_sem, i6f]⟩
/-- What a step that writes from a block on alone leaves. -/
def Gw (base : Nat) (w w' : World) : Prop := (∀ w0, Below base w0 w → Below base w0 w') ∧ w.heap.size ≤ w'.heap.size
theorem byteInfo : ∃ i, Tryd.prog.info? 5 = some i ∧ i.zero = some (.int .u8 0) ∧ i.size = 1 ∧ i.bytes = 1 := by
  obtain ⟨i0, hti, hi0, hi1, hi2⟩ := info_parts dinfo_byte
  exact ⟨i0, hti, hi0, hi1, hi2⟩
theorem dinfo_i64 : (Tryd.prog.info? 3).map (fun i => (i.zero, i.size, i.bytes)) = some (some (.int .i64 0), 1, 8) := by kernel_rfl
theorem i64Info : ∃ i, Tryd.prog.info? 3 = some i ∧ i.zero = some (.int .i64 0) ∧ i.size = 1 ∧ i.bytes = 8 := by
  obtain ⟨i0, hti, hi0, hi1, hi2⟩ := info_parts dinfo_i64
  exact ⟨i0, hti, hi0, hi1, hi2⟩
/-- A list of one's own grows by a text. -/
theorem apB {ops : Array Oper} {rest : List Oper} {o : Oper} {a : Act} {w : World} {Q : Exit → Act → World → Prop} (hgd : o.guard = none) (s x : Operand)
    (ho : o.op = .call { callee := .builtin .append, args := #[s, x], argTypes := #[39, 39] })
    (base : Nat) (v : Value) (l : List Nat) (hs : a.eval s = v) (hO : Ob base w v l) (vx : Value) (m : List Nat) (hx : a.eval x = vx) (hL : Bs w vx m)
    (hlen : l.length + m.length ≤ 1073741824) (hbase : base ≤ w.heap.size)
    (h : ∀ v' w', Ob base w' v' (l ++ m) → Gw base w w' → wpList Tryd.prog ops Q rest (a.put o.dst v') w') : wpList Tryd.prog ops Q (o :: rest) a w := by
  obtain ⟨i0, hti, hi0, hi1, hi2⟩ := byteInfo
  obtain ⟨ad, cap, e, h1, h2⟩ := hL.len
  subst e
  cases ad with
  | none =>
    obtain ⟨e0, e1⟩ := Ls.nil hL
    obtain rfl : m = [] := List.eq_nil_of_length_eq_zero e0
    subst e1
    refine wpList_append_own_none hgd s x 39 ho base 5 i0 1 Tryd.underlying39 hti v _ _ hs hO hx ?_
    refine h v w ?_ ⟨fun _ h => h, Nat.le_refl _⟩
    rw [List.append_nil]; exact hO
  | some ad =>
    have hnews := ls_news hL
    refine wpList_append_own w hgd s x 39 ho base 5 i0 (.int .u8 0) 1 1 Tryd.underlying39 hti hi0 hi1 hi2 rfl (by decide) v l.length (b8 l) hs hO ad m.length cap (b8 m) hx (by rw [b8_len, Nat.mul_one]) (by rw [← vl_b8]; exact hnews) (b8_one m) (by unfold maxLen; omega) (by omega) hbase ?_
    intro v' w' hown hg _
    refine h v' w' ?_ ⟨fun w0 hb => hb.grown hg hbase (fun k hk => (hO.lt k hk).1), hg.size⟩
    unfold Ob
    rw [List.length_append, b8_app]
    exact hown
/-- A list of one's own grows by numbers. -/
theorem apI {ops : Array Oper} {rest : List Oper} {o : Oper} {a : Act} {w : World} {Q : Exit → Act → World → Prop} (hgd : o.guard = none) (s x : Operand)
    (ho : o.op = .call { callee := .builtin .append, args := #[s, x], argTypes := #[127, 127] })
    (base : Nat) (v : Value) (l : List Int) (hs : a.eval s = v) (hO : Oi base w v l) (vx : Value) (m : List Int) (hx : a.eval x = vx) (hL : Is w vx m)
    (hlen : l.length + m.length ≤ 1073741824) (hbase : base ≤ w.heap.size)
    (h : ∀ v' w', Oi base w' v' (l ++ m) → Gw base w w' → wpList Tryd.prog ops Q rest (a.put o.dst v') w') : wpList Tryd.prog ops Q (o :: rest) a w := by
  obtain ⟨i0, hti, hi0, hi1, hi2⟩ := i64Info
  obtain ⟨ad, cap, e, h1, h2⟩ := hL.len
  subst e
  cases ad with
  | none =>
    obtain ⟨e0, e1⟩ := Ls.nil hL
    obtain rfl : m = [] := List.eq_nil_of_length_eq_zero e0
    subst e1
    refine wpList_append_own_none hgd s x 127 ho base 3 i0 1 Tryd.underlying127 hti v _ _ hs hO hx ?_
    refine h v w ?_ ⟨fun _ h => h, Nat.le_refl _⟩
    rw [List.append_nil]; exact hO
  | some ad =>
    have hnews := ls_news hL
    refine wpList_append_own w hgd s x 127 ho base 3 i0 (.int .i64 0) 1 8 Tryd.underlying127 hti hi0 hi1 hi2 rfl (by decide) v l.length (i6 l) hs hO ad m.length cap (i6 m) hx (by rw [i6_len, Nat.mul_one]) (by rw [← vl_i6]; exact hnews) (i6_one m) (by unfold maxLen; omega) (by omega) hbase ?_
    intro v' w' hown hg _
    refine h v' w' ?_ ⟨fun w0 hb => hb.grown hg hbase (fun k hk => (hO.lt k hk).1), hg.size⟩
    unfold Oi
    rw [List.length_append, i6_app]
    exact hown
theorem wp_append_own_none {P : Program} {w : World} {o : Oper} {a : Act} {K : Act → World → Prop} {Q : Exit → Act → World → Prop} (s x : Operand) (t : TypeId)
    (ho : o.op = .call { callee := .builtin .append, args := #[s, x], argTypes := #[t, t] })
    (base : Nat) (e : TypeId) (i : TypeInfo) (size : Nat) (ht : P.underlying t = some (.slice e)) (hi : P.info? e = some i)
    (v : Value) (n : Nat) (xs : List Value) (hs : a.eval s = v) (hown : w.ownsRow base e size v n xs) (hx : a.eval x = .slice none 0 0)
    (h : K (a.put o.dst v) w) : o.wp P a w K Q := by
  have hrun := run_append_owned_none (P := P) (w := w) base t o.type e i size ht hi v n xs hown
  unfold Oper.wp
  simp [execOp, ho, resolve, invoke, builtin, hs, hx, hrun, Result.andThen]
  exact h
theorem apB_op {o : Oper} {a : Act} {w : World} {K : Act → World → Prop} {Q : Exit → Act → World → Prop} (s x : Operand)
    (ho : o.op = .call { callee := .builtin .append, args := #[s, x], argTypes := #[39, 39] })
    (base : Nat) (v : Value) (l : List Nat) (hs : a.eval s = v) (hO : Ob base w v l) (vx : Value) (m : List Nat) (hx : a.eval x = vx) (hL : Bs w vx m)
    (hlen : l.length + m.length ≤ 1073741824) (hbase : base ≤ w.heap.size)
    (h : ∀ v' w', Ob base w' v' (l ++ m) → Gw base w w' → K (a.put o.dst v') w') : o.wp Tryd.prog a w K Q := by
  obtain ⟨i0, hti, hi0, hi1, hi2⟩ := byteInfo
  obtain ⟨ad, cap, e, h1, h2⟩ := hL.len
  subst e
  cases ad with
  | none =>
    obtain ⟨e0, e1⟩ := Ls.nil hL
    obtain rfl : m = [] := List.eq_nil_of_length_eq_zero e0
    subst e1
    refine wp_append_own_none s x 39 ho base 5 i0 1 Tryd.underlying39 hti v _ _ hs hO hx ?_
    refine h v w ?_ ⟨fun _ h => h, Nat.le_refl _⟩
    rw [List.append_nil]; exact hO
  | some ad =>
    have hnews := ls_news hL
    refine wp_append_own w s x 39 ho base 5 i0 (.int .u8 0) 1 1 Tryd.underlying39 hti hi0 hi1 hi2 rfl (by decide) v l.length (b8 l) hs hO ad m.length cap (b8 m) hx (by rw [b8_len, Nat.mul_one]) (by rw [← vl_b8]; exact hnews) (b8_one m) (by unfold maxLen; omega) (by omega) hbase ?_
    intro v' w' hown hg _
    refine h v' w' ?_ ⟨fun w0 hb => hb.grown hg hbase (fun k hk => (hO.lt k hk).1), hg.size⟩
    unfold Ob
    rw [List.length_append, b8_app]
    exact hown
/-- A part of a text. -/
def sv (ad : Option Addr) (p q cap : Nat) : Value := .slice (if cap = p then ad else ad.map (·.add p)) (q - p) (cap - p)
theorem slice_run (w : World) (ad : Option Addr) (n cap p q : Nat) (h1 : p ≤ q) (h2 : q ≤ cap) :
    (Instr.slice 39 (.slice ad n cap) (some (.int .i64 (p : Int))) (some (.int .i64 (q : Int))) none).run Tryd.prog w = .ok (sv ad p q cap) w := by
  have ht : Tryd.prog.underlying 39 = some (.slice (Tryd.prog.elem 39)) := by kernel_rfl
  have hs : (sizeOf (Tryd.prog.elem 39)).run Tryd.prog w = .ok 1 w := by
    obtain ⟨i0, hti, hi0, hi1, hi2⟩ := byteInfo
    have e : Tryd.prog.elem 39 = 5 := by kernel_rfl
    rw [e]
    simp [sizeOf, typeInfo, hti, hi1]
  rw [run_slice_lh w 39 ad n cap ht .i64 .i64 (p : Int) (q : Int) (by omega) (by omega) (by omega), hs]
  simp [Result.andThen, sliced, sv]
theorem sliceAt_run (w : World) (ad : Option Addr) (n cap p q : Nat) (h1 : p ≤ q) (h2 : q ≤ cap) :
    (Instr.sliceAt 39 (.slice ad n cap) (some (.int .i64 (p : Int))) (some (.int .i64 (q : Int))) none).run Tryd.prog w = .ok (sv ad p q cap) w := by
  have ht : Tryd.prog.underlying 39 = some (.slice (Tryd.prog.elem 39)) := by kernel_rfl
  rw [run_sliceAt_slice _ _ _ _ _ _ ht, slice_run w ad n cap p q h1 h2]
theorem sv_bs {w : World} {ad : Option Addr} {n cap : Nat} {l : List Nat} (h : Bs w (.slice ad n cap) l) (p q : Nat) (h1 : p ≤ q) (h2 : q ≤ l.length) : Bs w (sv ad p q cap) ((l.drop p).take (q - p)) := by
  obtain ⟨adr, c, b, o, e, h3, h4, h5, h6⟩ := h
  injection e with e1 e2 e3
  subst e1 e3
  have hl : ((l.drop p).take (q - p)).length = q - p := by rw [List.length_take, List.length_drop]; omega
  refine ⟨_, cap - p, b, o + p, by rw [hl]; rfl, by rw [hl]; omega, ⟨by omega, ?_⟩, ?_, ?_⟩
  · intro e
    by_cases q : cap = p
    · omega
    · rw [if_neg q] at e
      have : ad = none := by cases ad with
        | none => rfl
        | some a => cases e
      have := h4.2 this
      omega
  · intro hp
    rw [hl] at hp
    have e := h5 (by omega)
    rw [if_neg (by omega), e]
    simp [Addr.add]
  · intro k hk
    rw [hl] at hk
    rw [show o + p + k = o + (p + k) by omega, h6 (p + k) (by omega)]
    unfold b8f
    congr 3
    simp [List.getD, List.getElem?_take, hk]
/-- All old blocks but some are as they were. -/
structure Kp (F : Nat → Prop) (w w' : World) : Prop where
  os : w'.os = w.os
  tape : w'.tape = w.tape
  output : w'.output = w.output
  size : w.heap.size ≤ w'.heap.size
  block : ∀ k, k < w.heap.size → ¬ F k → w'.heap[k]? = w.heap[k]?
theorem Kp.refl (F : Nat → Prop) (w : World) : Kp F w w := ⟨rfl, rfl, rfl, Nat.le_refl _, fun _ _ _ => rfl⟩
theorem Kp.of {F : Nat → Prop} {w w' : World} (h : Below w.heap.size w w') : Kp F w w' := ⟨h.os, h.tape, h.output, h.size, fun k hk _ => h.block k hk⟩
theorem Kp.trans {F G : Nat → Prop} {a b c : World} (h : Kp F a b) (k : Kp G b c) (hG : ∀ i, G i → F i ∨ a.heap.size ≤ i) : Kp F a c :=
  ⟨k.os.trans h.os, k.tape.trans h.tape, k.output.trans h.output, Nat.le_trans h.size k.size, fun i hi hn => (k.block i (Nat.lt_of_lt_of_le hi h.size) (fun q => by rcases hG i q with q | q; exact hn q; omega)).trans (h.block i hi hn)⟩
theorem Kp.mono {F G : Nat → Prop} {w w' : World} (h : Kp F w w') (hG : ∀ i, F i → G i) : Kp G w w' := ⟨h.os, h.tape, h.output, h.size, fun i hi hn => h.block i hi (fun q => hn (hG i q))⟩
theorem Kp.below {F : Nat → Prop} {w w' : World} (h : Kp F w w') {B : Nat} (hF : ∀ i, F i → B ≤ i) (hB : B ≤ w.heap.size) : Below B w w' :=
  ⟨h.os, h.tape, h.output, h.size, fun i hi => h.block i (by omega) (fun q => by have := hF i q; omega)⟩
theorem Kp.next {F : Nat → Prop} {w0 w w' : World} (h : Kp F w w') {B : Nat} (hb : Below B w0 w) (hF : ∀ i, F i → B ≤ i) (hB : B ≤ w.heap.size) : Below B w0 w' := hb.trans (h.below hF hB)
theorem Kp.set {F : Nat → Prop} {a w : World} (h : Kp F a w) {p : Addr} (hp : F p.block ∨ a.heap.size ≤ p.block) (u : Value) : Kp F a (w.setCell p u) :=
  ⟨h.os, h.tape, h.output, by rw [World.size_setCell]; exact h.size, fun i hi hn => (Below.heap_setCell _ _ _ _ (fun e => by subst e; rcases hp with q | q; exact hn q; omega)).trans (h.block i hi hn)⟩
theorem Kp.alloc {F : Nat → Prop} {a w : World} (h : Kp F a w) (o : Obj) : Kp F a (w.alloc o) :=
  ⟨h.os, h.tape, h.output, by rw [World.size_alloc]; have := h.size; omega, fun i hi hn => (Below.heap_alloc _ _ _ (by have := h.size; omega)).trans (h.block i hi hn)⟩
theorem Kp.drew {F : Nat → Prop} {a w : World} (h : Kp F a w) : Kp F a w.drew := ⟨h.os, h.tape, h.output, h.size, h.block⟩
theorem Kp.cell {F : Nat → Prop} {w w' : World} (h : Kp F w w') {a : Addr} {v : Value} (hn : ¬ F a.block) (hc : w.cell? a = some v) : w'.cell? a = some v :=
  (World.cell?_of_block (w := w) (h.block _ (World.block_lt_of_cell? _ _ hc) hn)).trans hc
theorem Kp.frozen {F : Nat → Prop} {w w' : World} (h : Kp F w w') {a : Addr} {v : Value} (hn : ¬ F a.block) (hc : w.cell? a = some v) (hf : w.frozen? a = false) : w'.frozen? a = false :=
  (World.frozen?_of_block (w := w) (h.block _ (World.block_lt_of_cell? _ _ hc) hn)).trans hf
theorem Kp.grow {F : Nat → Prop} {a w w' : World} (h : Kp F a w) {B : Nat} (hb : Below B w w') (hB : a.heap.size ≤ B) : Kp F a w' :=
  ⟨hb.os.trans h.os, hb.tape.trans h.tape, hb.output.trans h.output, Nat.le_trans h.size hb.size, fun i hi hn => (hb.block i (by omega)).trans (h.block i hi hn)⟩
theorem own_kp {F : Nat → Prop} {w w' : World} {B : Nat} {e : TypeId} {s : Nat} {v : Value} {n : Nat} {xs : List Value} (h : w.ownsRow B e s v n xs) (k : Kp F w w') (hF : ∀ i, F i → i < B) : w'.ownsRow B e s v n xs := by
  refine ⟨h.1, ?_⟩
  rcases h.2 with h0 | ⟨g, cap, cur, hv, hg, hh, r⟩
  · exact Or.inl h0
  · exact Or.inr ⟨g, cap, cur, hv, hg, (k.block g (Array.getElem?_eq_some_iff.1 hh).1 (fun q => by have := hF g q; omega)).trans hh, r⟩
/-- A list whose block is none of these. -/
def Nf (F : Nat → Prop) (v : Value) : Prop := ∀ (a : Addr) (n cap : Nat), v = .slice (some a) n cap → 0 < n → ¬ F a.block
theorem Kp.ls {F : Nat → Prop} {w w' : World} (h : Kp F w w') {v : Value} {n : Nat} {g : Nat → Value} (l : Ls w v n g) (hn : Nf F v) : Ls w' v n g := by
  obtain ⟨adr, cap, q, o, rfl, h2, h3, h4, h5⟩ := l
  refine ⟨adr, cap, q, o, rfl, h2, h3, h4, fun k hk => ?_⟩
  have e := h4 (by omega)
  subst e
  exact h.cell (hn ⟨q, o, none⟩ n cap rfl (by omega)) (h5 k hk)
theorem Kp.bs {F : Nat → Prop} {w w' : World} (h : Kp F w w') {v : Value} {l : List Nat} (hl : Bs w v l) (hn : Nf F v) : Bs w' v l := h.ls hl hn
theorem Kp.is {F : Nat → Prop} {w w' : World} (h : Kp F w w') {v : Value} {l : List Int} (hl : Is w v l) (hn : Nf F v) : Is w' v l := h.ls hl hn
theorem ow_nf {F : Nat → Prop} {B : Nat} {v : Value} (h : Ow B v) (hF : ∀ i, F i → i < B) : Nf F v := fun a n cap e hn q => by have := h a n cap e hn; have := hF _ q; omega
theorem Ls.nf {w : World} {v : Value} {n : Nat} {h : Nat → Value} (l : Ls w v n h) {F : Nat → Prop} (hF : ∀ i, F i → w.heap.size ≤ i) : Nf F v := by
  obtain ⟨adr, cap, b, o, rfl, h2, h3, h4, h5⟩ := l
  intro a n' cap' e hn q
  have e2 := h4 (by cases e; exact hn)
  subst e2
  cases e
  have h6 : b < w.heap.size := World.block_lt_of_cell? _ _ (h5 0 hn)
  have := hF _ q
  dsimp only at this
  omega
/-- A list whose block is below. -/
def Lo (B : Nat) (v : Value) : Prop := ∀ (a : Addr) (n cap : Nat), v = .slice (some a) n cap → 0 < n → a.block < B
theorem Ls.lo {w : World} {v : Value} {n : Nat} {h : Nat → Value} (l : Ls w v n h) : Lo w.heap.size v := by
  obtain ⟨adr, cap, b, o, rfl, h2, h3, h4, h5⟩ := l
  intro a n' cap' e hn
  have e2 := h4 (by cases e; exact hn)
  subst e2
  cases e
  exact World.block_lt_of_cell? _ _ (h5 0 hn)
theorem Lo.up {B B' : Nat} {v : Value} (h : Lo B v) (hl : B ≤ B') : Lo B' v := fun a n cap e hn => Nat.lt_of_lt_of_le (h a n cap e hn) hl
theorem Ls.upto {B : Nat} {w w' : World} {v : Value} {n : Nat} {h : Nat → Value} (l : Ls w v n h) (hb : Below B w w') (hv : Lo B v) : Ls w' v n h := by
  obtain ⟨adr, cap, q, o, rfl, h2, h3, h4, h5⟩ := l
  refine ⟨adr, cap, q, o, rfl, h2, h3, h4, fun k hk => ?_⟩
  have e := h4 (by omega)
  subst e
  exact (hb.cell (p := ⟨q, o + k, none⟩) (hv ⟨q, o, none⟩ n cap rfl (by omega))).trans (h5 k hk)
/-- What a call with an object leaves of what is its own. -/
def Gr (F F' : Nat → Prop) (w : World) : Prop := ∀ k, F' k → F k ∨ w.heap.size ≤ k
theorem getD_drop {α : Type} (l : List α) (d : α) (n k : Nat) : (l.drop n).getD k d = l.getD (n + k) d := by
  simp [List.getD, List.getElem?_drop]
theorem drop_cons {l : List Nat} {n : Nat} (h : n < l.length) : l.drop n = l.getD n 0 :: l.drop (n + 1) := by
  rw [List.drop_eq_getElem_cons h]
  simp [List.getD, h]
theorem getD_byte {l : List Nat} (hb : ∀ c ∈ l, c < 256) (k : Nat) : l.getD k 0 < 256 := by
  by_cases h : k < l.length
  · have : l.getD k 0 = l[k] := by simp [List.getD, h]
    rw [this]
    exact hb _ (List.getElem_mem h)
  · have : l.getD k 0 = 0 := by simp [List.getD, h]
    omega
end Go.Proofs.YtpmmfmlldkdfhaaDoor
set_option linter.unusedVariables false
set_option linter.unusedSimpArgs false
namespace Go.Proofs.YtpmmfmlldkdfhaaDoor
open Go.RowKit

theorem zeroCells_byte (m : Nat) : Builtin.zeroCells (Value.int .u8 0).cells m = (b8 (List.replicate m 0)).toArray := by
  apply Array.ext
  · simp [Builtin.zeroCells, b8, Value.cells]
  · intro i h1 h2
    have h3 : i < m := by simpa [b8] using h2
    simp [Builtin.zeroCells, b8, Value.cells, Nat.mod_one]
theorem run_append_room_zeros (w : World) (ty : TypeId) (i0 : TypeInfo) (hti : Tryd.prog.info? 5 = some i0) (hz : i0.zero = some (.int .u8 0)) (hi1 : i0.size = 1) (hi2 : i0.bytes = 1) (g sLen sCap : Nat) (cur : Array Value) (hg : w.heap[g]? = some (.cells cur 5 (0, 0))) (m : Nat) (hm : 0 < m) (hm2 : m ≤ 1073741824) (hroom : sLen + m ≤ sCap) (hfit : sLen + m ≤ cur.size) :
    (Builtin.append_ #[39, 3] ty #[.slice (some ⟨g, 0, none⟩) sLen sCap, .int .i64 (m : Int)]).run Tryd.prog w =
      .ok (.slice (some ⟨g, 0, none⟩) (sLen + m) sCap) (w.setRow g (cur.toList.take sLen ++ b8 (List.replicate m 0) ++ cur.toList.drop (sLen + m)).toArray) := by
  have hst := run_storeCells_at Tryd.prog g (sLen * i0.size) 5 (b8 (List.replicate m 0)) 0 cur w hg (by rw [hi1, b8_len, List.length_replicate]; omega) (b8_one _)
  have hw : IntKind.i64.wrap (m : Int) = m := by rw [IntKind.wrap_i64]; omega
  have hneg : ¬ ((m : Int) < 0) := by omega
  have hbig : ¬ (281474976710656 < (m : Int)) := by omega
  have hm0 : ¬ m = 0 := by omega
  simp only [Nat.add_zero, hi1, Nat.mul_one, b8_len, List.length_replicate] at hst
  have hzc := zeroCells_byte m
  simp [Builtin.append_, run_underlying Tryd.underlying39, run_underlying Tryd.underlying3, sizeOf, typeInfo, zeroValue, hti, hz, hi1, hi2, asInt, asIntOf, hw, hneg, hbig, hm0, hroom, hzc, Addr.add_lit, hst]
theorem run_append_own_zeros (w : World) (base : Nat) (ty : TypeId) (v : Value) (l : List Nat) (hO : Ob base w v l) (m : Nat) (hm : 0 < m) (hlen : l.length + m ≤ 1073741824) (hbase : base ≤ w.heap.size) :
    ∃ v' w', (Builtin.append_ #[39, 3] ty #[v, .int .i64 (m : Int)]).run Tryd.prog w = .ok v' w' ∧ Ob base w' v' (l ++ List.replicate m 0) ∧ w.grownBy w' v.ownBlock := by
  obtain ⟨i0, hti, hi0, hi1, hi2⟩ := byteInfo
  have hzs : ∀ k, Builtin.zeroCells (Value.int .u8 0).cells k = (b8 (List.replicate k 0)).toArray := zeroCells_byte
  have hxs : (b8 (l ++ List.replicate m 0)).length = (l.length + m) * 1 := by rw [b8_len, List.length_append, List.length_replicate, Nat.mul_one]
  have grown : ∀ (old : Nat), old < l.length + m → ∀ (row : Option Nat),
      Ob base (w.drew.alloc (.cells ((b8 l).toArray ++ Builtin.zeroCells (Value.int .u8 0).cells m ++ Builtin.zeroCells (Value.int .u8 0).cells (grownCap w (l.length + m) old 5 - (l.length + m))) 5))
        (.slice (some ⟨w.heap.size, 0, none⟩) (l.length + m) (grownCap w (l.length + m) old 5)) (l ++ List.replicate m 0) ∧
      w.grownBy (w.drew.alloc (.cells ((b8 l).toArray ++ Builtin.zeroCells (Value.int .u8 0).cells m ++ Builtin.zeroCells (Value.int .u8 0).cells (grownCap w (l.length + m) old 5 - (l.length + m))) 5)) row := by
    intro old ho row
    have hge := grownCap_ge w (l.length + m) old 5
    have hcm : grownCap w (l.length + m) old 5 ≤ maxLen := grownCap_le_maxLen w (l.length + m) old 5 (by unfold maxLen; omega)
    refine ⟨?_, ⟨rfl, rfl, rfl, by simp, fun k hk _ => heap_alloc_old w.drew _ hk⟩⟩
    unfold Ob
    rw [List.length_append, List.length_replicate]
    refine ⟨hxs, .inr ⟨w.heap.size, _, _, rfl, hbase, heap_alloc_new w.drew _, hge, hcm, ?_, ?_⟩⟩
    · simp only [Array.size_append, List.size_toArray, size_zeroCells, b8_len]
      simp [Value.cells]
      omega
    · rw [hzs m]
      simp only [Array.toList_append, List.append_assoc]
      rw [← List.append_assoc, ← b8_app, ← hxs]
      exact List.take_left
  rcases hO.2 with ⟨rfl, hn⟩ | ⟨g, cap, cur, rfl, hbg, hg, hnc, hcm, hcs, htake⟩
  · have hl : l = [] := List.eq_nil_of_length_eq_zero hn
    subst hl
    have hr := Lib.run_append_nil_zeros (P := Tryd.prog) w 39 3 ty 5 i0 (.int .u8 0) .i64 .i64 Tryd.underlying39 Tryd.underlying3 hti hi0 m hm (by omega) (by simp at hlen; omega) (by simp at hlen; rw [hi2]; omega)
    have hgr := grown 0 (by simp; omega) (Value.ownBlock (.slice none 0 0))
    simp only [List.length_nil, Nat.zero_add, List.nil_append] at hgr ⊢
    have e : (b8 []).toArray ++ Builtin.zeroCells (Value.int .u8 0).cells m = Builtin.zeroCells (Value.int .u8 0).cells m := by simp [b8]
    rw [e] at hgr
    exact ⟨_, _, hr, hgr.1, hgr.2⟩
  · by_cases hroom : l.length + m ≤ cap
    · have hcs2 : cur.size = cap := by rw [hcs, Nat.mul_one]
      have hr := run_append_room_zeros w ty i0 hti hi0 hi1 hi2 g l.length cap cur hg m hm (by omega) hroom (by omega)
      refine ⟨_, _, hr, ?_, ⟨rfl, rfl, rfl, by simp, fun k _ hk => setRow_other w g k _ (fun e => hk (by simp [Value.ownBlock, e]))⟩⟩
      unfold Ob
      rw [List.length_append, List.length_replicate]
      have ht : cur.toList.take l.length = b8 l := by simpa using htake
      refine ⟨hxs, .inr ⟨g, cap, _, rfl, hbg, setRow_heap w g cur _ 5 _ hg, hroom, hcm, ?_, ?_⟩⟩
      · simp only [List.size_toArray, List.length_append, List.length_take, List.length_drop, Array.length_toList, b8_len, List.length_replicate]
        omega
      · rw [ht, ← hxs, ← b8_app]
        exact List.take_left
    · have holds : ∀ j u, (b8 l)[j]? = some u → w.cell? ((⟨g, 0, none⟩ : Addr).add j) = some u := World.ownsRow.cells hO (g := g) rfl
      have hold := run_firstCells_some (P := Tryd.prog) w.drew i0.size l.length ⟨g, 0, none⟩ l.length cap (b8 l) (by rw [b8_len, hi1, Nat.mul_one]) holds
      have hr := Lib.run_append_grow_zeros (P := Tryd.prog) w 39 3 ty 5 i0 (.int .u8 0) .i64 .i64 Tryd.underlying39 Tryd.underlying3 hti hi0 (some ⟨g, 0, none⟩) l.length cap (b8 l) hold m hm (by omega) (by omega) (by omega) (by rw [hi2]; omega) (growslice_fits (by omega) (by rw [hi2]; omega))
      have hgr := grown cap (by omega) (Value.ownBlock (.slice (some ⟨g, 0, none⟩) l.length cap))
      exact ⟨_, _, hr, hgr.1, hgr.2⟩
/-- The operation. -/
theorem apZ {ops : Array Oper} {rest : List Oper} {o : Oper} {a : Act} {w : World} {Q : Exit → Act → World → Prop} (hgd : o.guard = none) (s x : Operand)
    (ho : o.op = .call { callee := .builtin .append, args := #[s, x], argTypes := #[39, 3] })
    (base : Nat) (v : Value) (l : List Nat) (hs : a.eval s = v) (hO : Ob base w v l) (m : Nat) (hx : a.eval x = .int .i64 (m : Int)) (hm : 0 < m) (hlen : l.length + m ≤ 1073741824) (hbase : base ≤ w.heap.size)
    (h : ∀ v' w', Ob base w' v' (l ++ List.replicate m 0) → Gw base w w' → wpList Tryd.prog ops Q rest (a.put o.dst v') w') : wpList Tryd.prog ops Q (o :: rest) a w :=
  wpList_plain hgd fun _ hK => by
    obtain ⟨v', w', hr, h2, h3⟩ := run_append_own_zeros w base o.type v l hO m hm hlen hbase
    unfold Oper.wp execOp
    simp only [ho, resolve, invoke, builtin, Sem.run_bind, Sem.run_pure, Result.andThen_ok, List.map_toArray, List.map_cons, List.map_nil, hs, hx, hr]
    exact hK _ _ (h v' w' h2 ⟨fun w0 hb => hb.grown h3 hbase (fun k hk => (hO.lt k hk).1), h3.size⟩)
end Go.Proofs.YtpmmfmlldkdfhaaDoor
