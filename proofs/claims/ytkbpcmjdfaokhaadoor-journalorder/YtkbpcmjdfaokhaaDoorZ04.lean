/-
Layer 12's memory: lists of bytes and of numbers; lists of one's own that grow; what writes into some blocks alone.
Two texts, and two lists of numbers, held against each other (regattaref11.Same, regattaref04.Same); numbers copied (regattalaw12.wide, plain).
-/
import Derived.Test.YtkbpcmjdfaokhaaDoorZ02
import Derived.Test.YtkbpcmjdfaokhaaDoorZ03
import Derived.Laws.AppendOwnNone

set_option linter.unusedVariables false
set_option linter.unusedSimpArgs false
namespace Go.Proofs.YtkbpcmjdfaokhaaDoor
open Go.RowKit

def b8f (l : List Nat) : Nat → Value := fun k => .int .u8 ((l.getD k 0 : Nat) : Int)
def i6f (l : List Int) : Nat → Value := fun k => .int .i64 (l.getD k 0)
def b8 (l : List Nat) : List Value := l.map fun c : Nat => .int .u8 (c : Int)
def i6 (l : List Int) : List Value := l.map fun c => .int .i64 c
theorem b8_len (l : List Nat) : (b8 l).length = l.length := by simp [b8]
theorem i6_len (l : List Int) : (i6 l).length = l.length := by simp [i6]
theorem b8_app (l m : List Nat) : b8 (l ++ m) = b8 l ++ b8 m := by simp [b8]
theorem i6_app (l m : List Int) : i6 (l ++ m) = i6 l ++ i6 m := by simp [i6]
theorem vl_b8 (l : List Nat) : vl (b8f l) l.length = b8 l := by
  apply List.ext_getElem
  · rw [vl_len, b8_len]
  · intro k h1 h2
    rw [b8_len] at h2
    simp [vl, b8, b8f, List.getD, h2]
theorem vl_i6 (l : List Int) : vl (i6f l) l.length = i6 l := by
  apply List.ext_getElem
  · rw [vl_len, i6_len]
  · intro k h1 h2
    rw [i6_len] at h2
    simp [vl, i6, i6f, List.getD, h2]
theorem b8_one (l : List Nat) : ∀ u ∈ b8 l, u.oneCell' = true := by
  intro u hu
  unfold b8 at hu
  obtain ⟨k, _, rfl⟩ := List.mem_map.1 hu
  rfl
theorem i6_one (l : List Int) : ∀ u ∈ i6 l, u.oneCell' = true := by
  intro u hu
  unfold i6 at hu
  obtain ⟨k, _, rfl⟩ := List.mem_map.1 hu
  rfl
/-- A text in memory; numbers in memory. -/
def Bs (w : World) (v : Value) (l : List Nat) : Prop := Ls w v l.length (b8f l)
def Is (w : World) (v : Value) (l : List Int) : Prop := Ls w v l.length (i6f l)
theorem Bs.later {w w' : World} {v : Value} {l : List Nat} (h : Bs w v l) (hb : Below w.heap.size w w') : Bs w' v l := Ls.later h hb
theorem Is.later {w w' : World} {v : Value} {l : List Int} (h : Is w v l) (hb : Below w.heap.size w w') : Is w' v l := Ls.later h hb
/-- Lists of one's own. -/
def Ob (base : Nat) (w : World) (v : Value) (l : List Nat) : Prop := w.ownsRow base 5 1 v l.length (b8 l)
def Oi (base : Nat) (w : World) (v : Value) (l : List Int) : Prop := w.ownsRow base 2 1 v l.length (i6 l)
theorem Ob.bs {base : Nat} {w : World} {v : Value} {l : List Nat} (h : Ob base w v l) : Bs w v l ∧ Ow base v := by
  unfold Ob at h
  rw [← vl_b8] at h
  exact ls_of_own h
theorem Oi.is {base : Nat} {w : World} {v : Value} {l : List Int} (h : Oi base w v l) : Is w v l ∧ Ow base v := by
  unfold Oi at h
  rw [← vl_i6] at h
  exact ls_of_own h
theorem ob_nil (base : Nat) (w : World) : Ob base w (.slice none 0 0) [] := World.ownsRow_nil _ _ _ _
theorem oi_nil (base : Nat) (w : World) : Oi base w (.slice none 0 0) [] := World.ownsRow_nil _ _ _ _
theorem Ob.later {base : Nat} {w w' : World} {v : Value} {l : List Nat} (h : Ob base w v l) (hb : Below w.heap.size w w') : Ob base w' v l := own_later h hb
theorem Oi.later {base : Nat} {w w' : World} {v : Value} {l : List Int} (h : Oi base w v l) (hb : Below w.heap.size w w') : Oi base w' v l := own_later h hb
theorem Ob.sl {base : Nat} {w : World} {v : Value} {l : List Nat} (h : Ob base w v l) : ∃ ad cap, v = .slice ad l.length cap := own_sl h
theorem Oi.sl {base : Nat} {w : World} {v : Value} {l : List Int} (h : Oi base w v l) : ∃ ad cap, v = .slice ad l.length cap := own_sl h
theorem Ob.low {base base' : Nat} {w : World} {v : Value} {l : List Nat} (h : Ob base w v l) (hl : base' ≤ base) : Ob base' w v l := by
  refine ⟨h.1, ?_⟩
  rcases h.2 with h0 | ⟨g, cap, cur, hv, hg, hh, r⟩
  · exact Or.inl h0
  · exact Or.inr ⟨g, cap, cur, hv, Nat.le_trans hl hg, hh, r⟩
theorem Bs.at {w : World} {v : Value} {l : List Nat} (h : Bs w v l) (j : Nat) (hj : j < l.length) : ∃ (b o cap : Nat), v = .slice (some ⟨b, o, none⟩) l.length cap ∧ w.cell? ⟨b, o + j, none⟩ = some (.int .u8 ((l.getD j 0 : Nat) : Int)) := Ls.spot h j hj
theorem Is.at {w : World} {v : Value} {l : List Int} (h : Is w v l) (j : Nat) (hj : j < l.length) : ∃ (b o cap : Nat), v = .slice (some ⟨b, o, none⟩) l.length cap ∧ w.cell? ⟨b, o + j, none⟩ = some (.int .i64 (l.getD j 0)) := Ls.spot h j hj
theorem Bs.len {w : World} {v : Value} {l : List Nat} (h : Bs w v l) : ∃ (ad : Option Addr) (cap : Nat), v = .slice ad l.length cap ∧ l.length ≤ cap ∧ cap ≤ maxLen := Ls.len h
theorem Is.len {w : World} {v : Value} {l : List Int} (h : Is w v l) : ∃ (ad : Option Addr) (cap : Nat), v = .slice ad l.length cap ∧ l.length ≤ cap ∧ cap ≤ maxLen := Ls.len h
theorem Bs.cel {w : World} {ad : Option Addr} {n cap : Nat} {l : List Nat} (h : Bs w (.slice ad n cap) l) (j : Nat) (hj : j < l.length) : ∃ (b o : Nat), ad = some ⟨b, o, none⟩ ∧ w.cell? ⟨b, o + j, none⟩ = some (.int .u8 ((l.getD j 0 : Nat) : Int)) := by
  obtain ⟨b, o, c, e, hc⟩ := h.at j hj
  injection e with e1 e2 e3
  exact ⟨b, o, e1, hc⟩
theorem Is.cel {w : World} {ad : Option Addr} {n cap : Nat} {l : List Int} (h : Is w (.slice ad n cap) l) (j : Nat) (hj : j < l.length) : ∃ (b o : Nat), ad = some ⟨b, o, none⟩ ∧ w.cell? ⟨b, o + j, none⟩ = some (.int .i64 (l.getD j 0)) := by
  obtain ⟨b, o, c, e, hc⟩ := h.at j hj
  injection e with e1 e2 e3
  exact ⟨b, o, e1, hc⟩
theorem bs_one (w : World) (x : Nat) (t : TypeId) : Bs (w.alloc (.cells #[.int .u8 (x : Int)] t)) (.slice (some ⟨w.heap.size, 0, none⟩) 1 1) [x] :=
  ⟨_, 1, w.heap.size, 0, rfl, Nat.le_refl _, ⟨by unfold maxLen; omega, fun e => by cases e⟩, fun _ => rfl, fun k hk => by
    have hk0 : k < 1 := hk
    obtain rfl : k = 0 := by omega
    simp [go_sem, b8f]⟩
theorem is_one (w : World) (x : Int) (t : TypeId) : Is (w.alloc (.cells #[.int .i64 x] t)) (.slice (some ⟨w.heap.size, 0, none⟩) 1 1) [x] :=
  ⟨_, 1, w.heap.size, 0, rfl, Nat.le_refl _, ⟨by unfold maxLen; omega, fun e => by cases e⟩, fun _ => rfl, fun k hk => by
    have hk0 : k < 1 := hk
    obtain rfl : k = 0 := by omega
    simp [go_sem, i6f]⟩
/-- What a step that writes from a block on alone leaves. -/
def Gw (base : Nat) (w w' : World) : Prop := (∀ w0, Below base w0 w → Below base w0 w') ∧ w.heap.size ≤ w'.heap.size
theorem byteInfo : ∃ i, Tryd.prog.info? 5 = some i ∧ i.zero = some (.int .u8 0) ∧ i.size = 1 ∧ i.bytes = 1 := by
  obtain ⟨i0, hti, hi0, hi1, hi2⟩ := info_parts dinfo_byte
  exact ⟨i0, hti, hi0, hi1, hi2⟩
theorem dinfo_i64 : (Tryd.prog.info? 2).map (fun i => (i.zero, i.size, i.bytes)) = some (some (.int .i64 0), 1, 8) := by kernel_rfl
theorem i64Info : ∃ i, Tryd.prog.info? 2 = some i ∧ i.zero = some (.int .i64 0) ∧ i.size = 1 ∧ i.bytes = 8 := by
  obtain ⟨i0, hti, hi0, hi1, hi2⟩ := info_parts dinfo_i64
  exact ⟨i0, hti, hi0, hi1, hi2⟩
/-- A list of one's own grows by a text. -/
theorem apB {ops : Array Oper} {rest : List Oper} {o : Oper} {a : Act} {w : World} {Q : Exit → Act → World → Prop} (hgd : o.guard = none) (s x : Operand)
    (ho : o.op = .call { callee := .builtin .append, args := #[s, x], argTypes := #[40, 40] })
    (base : Nat) (v : Value) (l : List Nat) (hs : a.eval s = v) (hO : Ob base w v l) (vx : Value) (m : List Nat) (hx : a.eval x = vx) (hL : Bs w vx m)
    (hlen : l.length + m.length ≤ 1073741824) (hbase : base ≤ w.heap.size)
    (h : ∀ v' w', Ob base w' v' (l ++ m) → Gw base w w' → wpList Tryd.prog ops Q rest (a.put o.dst v') w') : wpList Tryd.prog ops Q (o :: rest) a w := by
  obtain ⟨i0, hti, hi0, hi1, hi2⟩ := byteInfo
  obtain ⟨ad, cap, e, h1, h2⟩ := hL.len
  subst e
  cases ad with
  | none =>
    obtain ⟨e0, e1⟩ := Ls.nil hL
    obtain rfl : m = [] := List.eq_nil_of_length_eq_zero e0
    subst e1
    refine wpList_append_own_none hgd s x 40 ho base 5 i0 1 Tryd.underlying40 hti v _ _ hs hO hx ?_
    refine h v w ?_ ⟨fun _ h => h, Nat.le_refl _⟩
    rw [List.append_nil]; exact hO
  | some ad =>
    have hnews := ls_news hL
    refine wpList_append_own w hgd s x 40 ho base 5 i0 (.int .u8 0) 1 1 Tryd.underlying40 hti hi0 hi1 hi2 rfl (by decide) v l.length (b8 l) hs hO ad m.length cap (b8 m) hx (by rw [b8_len, Nat.mul_one]) (by rw [← vl_b8]; exact hnews) (b8_one m) (by unfold maxLen; omega) (by omega) hbase ?_
    intro v' w' hown hg _
    refine h v' w' ?_ ⟨fun w0 hb => hb.grown hg hbase (fun k hk => (hO.lt k hk).1), hg.size⟩
    unfold Ob
    rw [List.length_append, b8_app]
    exact hown
theorem wp_append_own_none {P : Program} {w : World} {o : Oper} {a : Act} {K : Act → World → Prop} {Q : Exit → Act → World → Prop} (s x : Operand) (t : TypeId)
    (ho : o.op = .call { callee := .builtin .append, args := #[s, x], argTypes := #[t, t] })
    (base : Nat) (e : TypeId) (i : TypeInfo) (size : Nat) (ht : P.underlying t = some (.slice e)) (hi : P.info? e = some i)
    (v : Value) (n : Nat) (xs : List Value) (hs : a.eval s = v) (hown : w.ownsRow base e size v n xs) (hx : a.eval x = .slice none 0 0)
    (h : K (a.put o.dst v) w) : o.wp P a w K Q := by
  have hrun := run_append_owned_none (P := P) (w := w) base t o.type e i size ht hi v n xs hown
  unfold Oper.wp
  simp [execOp, ho, resolve, invoke, builtin, hs, hx, hrun, Result.andThen]
  exact h
theorem apB_op {o : Oper} {a : Act} {w : World} {K : Act → World → Prop} {Q : Exit → Act → World → Prop} (s x : Operand)
    (ho : o.op = .call { callee := .builtin .append, args := #[s, x], argTypes := #[40, 40] })
    (base : Nat) (v : Value) (l : List Nat) (hs : a.eval s = v) (hO : Ob base w v l) (vx : Value) (m : List Nat) (hx : a.eval x = vx) (hL : Bs w vx m)
    (hlen : l.length + m.length ≤ 1073741824) (hbase : base ≤ w.heap.size)
    (h : ∀ v' w', Ob base w' v' (l ++ m) → Gw base w w' → K (a.put o.dst v') w') : o.wp Tryd.prog a w K Q := by
  obtain ⟨i0, hti, hi0, hi1, hi2⟩ := byteInfo
  obtain ⟨ad, cap, e, h1, h2⟩ := hL.len
  subst e
  cases ad with
  | none =>
    obtain ⟨e0, e1⟩ := Ls.nil hL
    obtain rfl : m = [] := List.eq_nil_of_length_eq_zero e0
    subst e1
    refine wp_append_own_none s x 40 ho base 5 i0 1 Tryd.underlying40 hti v _ _ hs hO hx ?_
    refine h v w ?_ ⟨fun _ h => h, Nat.le_refl _⟩
    rw [List.append_nil]; exact hO
  | some ad =>
    have hnews := ls_news hL
    refine wp_append_own w s x 40 ho base 5 i0 (.int .u8 0) 1 1 Tryd.underlying40 hti hi0 hi1 hi2 rfl (by decide) v l.length (b8 l) hs hO ad m.length cap (b8 m) hx (by rw [b8_len, Nat.mul_one]) (by rw [← vl_b8]; exact hnews) (b8_one m) (by unfold maxLen; omega) (by omega) hbase ?_
    intro v' w' hown hg _
    refine h v' w' ?_ ⟨fun w0 hb => hb.grown hg hbase (fun k hk => (hO.lt k hk).1), hg.size⟩
    unfold Ob
    rw [List.length_append, b8_app]
    exact hown
/-- A part of a text. -/
def sv (ad : Option Addr) (p q cap : Nat) : Value := .slice (if cap = p then ad else ad.map (·.add p)) (q - p) (cap - p)
theorem slice_run (w : World) (ad : Option Addr) (n cap p q : Nat) (h1 : p ≤ q) (h2 : q ≤ cap) :
    (Instr.slice 40 (.slice ad n cap) (some (.int .i64 (p : Int))) (some (.int .i64 (q : Int))) none).run Tryd.prog w = .ok (sv ad p q cap) w := by
  have ht : Tryd.prog.underlying 40 = some (.slice (Tryd.prog.elem 40)) := by kernel_rfl
  have hs : (sizeOf (Tryd.prog.elem 40)).run Tryd.prog w = .ok 1 w := by
    obtain ⟨i0, hti, hi0, hi1, hi2⟩ := byteInfo
    have e : Tryd.prog.elem 40 = 5 := by kernel_rfl
    rw [e]
    simp [sizeOf, typeInfo, hti, hi1]
  rw [run_slice_lh w 40 ad n cap ht .i64 .i64 (p : Int) (q : Int) (by omega) (by omega) (by omega), hs]
  simp [Result.andThen, sliced, sv]
theorem sliceAt_run (w : World) (ad : Option Addr) (n cap p q : Nat) (h1 : p ≤ q) (h2 : q ≤ cap) :
    (Instr.sliceAt 40 (.slice ad n cap) (some (.int .i64 (p : Int))) (some (.int .i64 (q : Int))) none).run Tryd.prog w = .ok (sv ad p q cap) w := by
  have ht : Tryd.prog.underlying 40 = some (.slice (Tryd.prog.elem 40)) := by kernel_rfl
  rw [run_sliceAt_slice _ _ _ _ _ _ ht, slice_run w ad n cap p q h1 h2]
theorem sv_bs {w : World} {ad : Option Addr} {n cap : Nat} {l : List Nat} (h : Bs w (.slice ad n cap) l) (p q : Nat) (h1 : p ≤ q) (h2 : q ≤ l.length) : Bs w (sv ad p q cap) ((l.drop p).take (q - p)) := by
  obtain ⟨adr, c, b, o, e, h3, h4, h5, h6⟩ := h
  injection e with e1 e2 e3
  subst e1 e3
  have hl : ((l.drop p).take (q - p)).length = q - p := by rw [List.length_take, List.length_drop]; omega
  refine ⟨_, cap - p, b, o + p, by rw [hl]; rfl, by rw [hl]; omega, ⟨by omega, ?_⟩, ?_, ?_⟩
  · intro e
    by_cases q : cap = p
    · omega
    · rw [if_neg q] at e
      have : ad = none := by cases ad with
        | none => rfl
        | some a => cases e
      have := h4.2 this
      omega
  · intro hp
    rw [hl] at hp
    have e := h5 (by omega)
    rw [if_neg (by omega), e]
    simp [Addr.add]
  · intro k hk
    rw [hl] at hk
    rw [show o + p + k = o + (p + k) by omega, h6 (p + k) (by omega)]
    unfold b8f
    congr 3
    simp [List.getD, List.getElem?_take, hk]
/-- All old blocks but some are as they were. -/
structure Kp (F : Nat → Prop) (w w' : World) : Prop where
  os : w'.os = w.os
  tape : w'.tape = w.tape
  output : w'.output = w.output
  size : w.heap.size ≤ w'.heap.size
  block : ∀ k, k < w.heap.size → ¬ F k → w'.heap[k]? = w.heap[k]?
theorem Kp.refl (F : Nat → Prop) (w : World) : Kp F w w := ⟨rfl, rfl, rfl, Nat.le_refl _, fun _ _ _ => rfl⟩
theorem Kp.of {F : Nat → Prop} {w w' : World} (h : Below w.heap.size w w') : Kp F w w' := ⟨h.os, h.tape, h.output, h.size, fun k hk _ => h.block k hk⟩
theorem Kp.trans {F G : Nat → Prop} {a b c : World} (h : Kp F a b) (k : Kp G b c) (hG : ∀ i, G i → F i ∨ a.heap.size ≤ i) : Kp F a c :=
  ⟨k.os.trans h.os, k.tape.trans h.tape, k.output.trans h.output, Nat.le_trans h.size k.size, fun i hi hn => (k.block i (Nat.lt_of_lt_of_le hi h.size) (fun q => by rcases hG i q with q | q; exact hn q; omega)).trans (h.block i hi hn)⟩
theorem Kp.mono {F G : Nat → Prop} {w w' : World} (h : Kp F w w') (hG : ∀ i, F i → G i) : Kp G w w' := ⟨h.os, h.tape, h.output, h.size, fun i hi hn => h.block i hi (fun q => hn (hG i q))⟩
theorem Kp.below {F : Nat → Prop} {w w' : World} (h : Kp F w w') {B : Nat} (hF : ∀ i, F i → B ≤ i) (hB : B ≤ w.heap.size) : Below B w w' :=
  ⟨h.os, h.tape, h.output, h.size, fun i hi => h.block i (by omega) (fun q => by have := hF i q; omega)⟩
theorem Kp.next {F : Nat → Prop} {w0 w w' : World} (h : Kp F w w') {B : Nat} (hb : Below B w0 w) (hF : ∀ i, F i → B ≤ i) (hB : B ≤ w.heap.size) : Below B w0 w' := hb.trans (h.below hF hB)
theorem Kp.set {F : Nat → Prop} {a w : World} (h : Kp F a w) {p : Addr} (hp : F p.block ∨ a.heap.size ≤ p.block) (u : Value) : Kp F a (w.setCell p u) :=
  ⟨h.os, h.tape, h.output, by rw [World.size_setCell]; exact h.size, fun i hi hn => (Below.heap_setCell _ _ _ _ (fun e => by subst e; rcases hp with q | q; exact hn q; omega)).trans (h.block i hi hn)⟩
theorem Kp.alloc {F : Nat → Prop} {a w : World} (h : Kp F a w) (o : Obj) : Kp F a (w.alloc o) :=
  ⟨h.os, h.tape, h.output, by rw [World.size_alloc]; have := h.size; omega, fun i hi hn => (Below.heap_alloc _ _ _ (by have := h.size; omega)).trans (h.block i hi hn)⟩
theorem Kp.drew {F : Nat → Prop} {a w : World} (h : Kp F a w) : Kp F a w.drew := ⟨h.os, h.tape, h.output, h.size, h.block⟩
theorem Kp.cell {F : Nat → Prop} {w w' : World} (h : Kp F w w') {a : Addr} {v : Value} (hn : ¬ F a.block) (hc : w.cell? a = some v) : w'.cell? a = some v :=
  (World.cell?_of_block (w := w) (h.block _ (World.block_lt_of_cell? _ _ hc) hn)).trans hc
theorem Kp.frozen {F : Nat → Prop} {w w' : World} (h : Kp F w w') {a : Addr} {v : Value} (hn : ¬ F a.block) (hc : w.cell? a = some v) (hf : w.frozen? a = false) : w'.frozen? a = false :=
  (World.frozen?_of_block (w := w) (h.block _ (World.block_lt_of_cell? _ _ hc) hn)).trans hf
theorem Kp.grow {F : Nat → Prop} {a w w' : World} (h : Kp F a w) {B : Nat} (hb : Below B w w') (hB : a.heap.size ≤ B) : Kp F a w' :=
  ⟨hb.os.trans h.os, hb.tape.trans h.tape, hb.output.trans h.output, Nat.le_trans h.size hb.size, fun i hi hn => (hb.block i (by omega)).trans (h.block i hi hn)⟩
theorem own_kp {F : Nat → Prop} {w w' : World} {B : Nat} {e : TypeId} {s : Nat} {v : Value} {n : Nat} {xs : List Value} (h : w.ownsRow B e s v n xs) (k : Kp F w w') (hF : ∀ i, F i → i < B) : w'.ownsRow B e s v n xs := by
  refine ⟨h.1, ?_⟩
  rcases h.2 with h0 | ⟨g, cap, cur, hv, hg, hh, r⟩
  · exact Or.inl h0
  · exact Or.inr ⟨g, cap, cur, hv, hg, (k.block g (Array.getElem?_eq_some_iff.1 hh).1 (fun q => by have := hF g q; omega)).trans hh, r⟩
/-- A list whose block is none of these. -/
def Nf (F : Nat → Prop) (v : Value) : Prop := ∀ (a : Addr) (n cap : Nat), v = .slice (some a) n cap → 0 < n → ¬ F a.block
theorem Kp.ls {F : Nat → Prop} {w w' : World} (h : Kp F w w') {v : Value} {n : Nat} {g : Nat → Value} (l : Ls w v n g) (hn : Nf F v) : Ls w' v n g := by
  obtain ⟨adr, cap, q, o, rfl, h2, h3, h4, h5⟩ := l
  refine ⟨adr, cap, q, o, rfl, h2, h3, h4, fun k hk => ?_⟩
  have e := h4 (by omega)
  subst e
  exact h.cell (hn ⟨q, o, none⟩ n cap rfl (by omega)) (h5 k hk)
theorem Kp.bs {F : Nat → Prop} {w w' : World} (h : Kp F w w') {v : Value} {l : List Nat} (hl : Bs w v l) (hn : Nf F v) : Bs w' v l := h.ls hl hn
theorem Kp.is {F : Nat → Prop} {w w' : World} (h : Kp F w w') {v : Value} {l : List Int} (hl : Is w v l) (hn : Nf F v) : Is w' v l := h.ls hl hn
theorem ow_nf {F : Nat → Prop} {B : Nat} {v : Value} (h : Ow B v) (hF : ∀ i, F i → i < B) : Nf F v := fun a n cap e hn q => by have := h a n cap e hn; have := hF _ q; omega
theorem Ls.nf {w : World} {v : Value} {n : Nat} {h : Nat → Value} (l : Ls w v n h) {F : Nat → Prop} (hF : ∀ i, F i → w.heap.size ≤ i) : Nf F v := by
  obtain ⟨adr, cap, b, o, rfl, h2, h3, h4, h5⟩ := l
  intro a n' cap' e hn q
  have e2 := h4 (by cases e; exact hn)
  subst e2
  cases e
  have h6 : b < w.heap.size := World.block_lt_of_cell? _ _ (h5 0 hn)
  have := hF _ q
  dsimp only at this
  omega
/-- A list whose block is below. -/
def Lo (B : Nat) (v : Value) : Prop := ∀ (a : Addr) (n cap : Nat), v = .slice (some a) n cap → 0 < n → a.block < B
theorem Ls.lo {w : World} {v : Value} {n : Nat} {h : Nat → Value} (l : Ls w v n h) : Lo w.heap.size v := by
  obtain ⟨adr, cap, b, o, rfl, h2, h3, h4, h5⟩ := l
  intro a n' cap' e hn
  have e2 := h4 (by cases e; exact hn)
  subst e2
  cases e
  exact World.block_lt_of_cell? _ _ (h5 0 hn)
theorem Lo.up {B B' : Nat} {v : Value} (h : Lo B v) (hl : B ≤ B') : Lo B' v := fun a n cap e hn => Nat.lt_of_lt_of_le (h a n cap e hn) hl
theorem Ls.upto {B : Nat} {w w' : World} {v : Value} {n : Nat} {h : Nat → Value} (l : Ls w v n h) (hb : Below B w w') (hv : Lo B v) : Ls w' v n h := by
  obtain ⟨adr, cap, q, o, rfl, h2, h3, h4, h5⟩ := l
  refine ⟨adr, cap, q, o, rfl, h2, h3, h4, fun k hk => ?_⟩
  have e := h4 (by omega)
  subst e
  exact (hb.cell (p := ⟨q, o + k, none⟩) (hv ⟨q, o, none⟩ n cap rfl (by omega))).trans (h5 k hk)
/-- What a call with an object leaves of what is its own. -/
def Gr (F F' : Nat → Prop) (w : World) : Prop := ∀ k, F' k → F k ∨ w.heap.size ≤ k
theorem getD_drop {α : Type} (l : List α) (d : α) (n k : Nat) : (l.drop n).getD k d = l.getD (n + k) d := by
  simp [List.getD, List.getElem?_drop]
theorem drop_cons {l : List Nat} {n : Nat} (h : n < l.length) : l.drop n = l.getD n 0 :: l.drop (n + 1) := by
  rw [List.drop_eq_getElem_cons h]
  simp [List.getD, h]
theorem getD_byte {l : List Nat} (hb : ∀ c ∈ l, c < 256) (k : Nat) : l.getD k 0 < 256 := by
  by_cases h : k < l.length
  · have : l.getD k 0 = l[k] := by simp [List.getD, h]
    rw [this]
    exact hb _ (List.getElem_mem h)
  · have : l.getD k 0 = 0 := by simp [List.getD, h]
    omega
end Go.Proofs.YtkbpcmjdfaokhaaDoor
set_option linter.unusedVariables false
set_option linter.unusedSimpArgs false
namespace Go.Proofs.YtkbpcmjdfaokhaaDoor
open Go.RowKit

theorem below_drewP {B : Nat} {a w : World} (h : Below B a w) (k : Nat) : Below B a (w.drewN k) := ⟨h.os, h.tape, h.output, h.size, h.block⟩
theorem neF {x y : Int} (h : x = y) : (x != y) = false := by simp [h]
theorem neT {x y : Int} (h : ¬ x = y) : (x != y) = true := by simp [h]
theorem ext0 {α : Type} (d : α) {l m : List α} (h1 : l.length = m.length) (h2 : ∀ k, k < l.length → l.getD k d = m.getD k d) : l = m := by
  apply List.ext_getElem h1
  intro k q1 q2
  have := h2 k q1
  simpa [List.getD, q1, q2] using this
set_option maxRecDepth 100000 in
set_option maxHeartbeats 4000000 in
theorem sameB (va vb : Value) (l m : List Nat) (w : World) (hA : Bs w va l) (hB : Bs w vb m) :
    Calls Tryd.prog 34 #[va, vb] w fun e w' => e = .returned (.bool (decide (l = m))) ∧ Below w.heap.size w w' := by
  have HA : Hid (Bs w va l) := hA
  have HB : Hid (Bs w vb m) := hB
  obtain ⟨ad, cap, rfl, k1, k2⟩ := hA.len
  obtain ⟨bd, bap, rfl, q1, q2⟩ := hB.len
  unfold maxLen at k2 q2
  clear hA hB
  by_cases hlen : l.length = m.length
  · have HE : Hid (l.length = m.length) := hlen
    have hne : ((l.length : Int) != (m.length : Int)) = false := by simp [hlen]
    have hnI : (l.length : Int) = (m.length : Int) := by omega
    obtain ⟨n, hn⟩ : ∃ n, l.length = n := ⟨_, rfl⟩
    obtain ⟨n2, hn2⟩ : ∃ n2, m.length = n2 := ⟨_, rfl⟩
    have HN : Hid (l.length = n ∧ m.length = n) := ⟨hn, by omega⟩
    rw [hn, hn2] at hlen
    rw [hn] at k1 HA ⊢
    rw [hn2] at q1 HB ⊢
    subst hlen
    clear hn hn2 hnI HE hne
    go_enter Tryd.func34, Tryd.ntmps34
    go_upto_region 4 with fail
    go_loopw [5] (fun s5 wr => ∃ j : Nat, j ≤ n ∧ s5 = .int .i64 (j : Int) ∧ Hid (∀ k, k < j → l.getD k 0 = m.getD k 0) ∧ Hid (Below w.heap.size w wr)) (fun s5 _ => n - (intOf s5).toNat)
    case atStart => exact ⟨0, by omega, rfl, fun k hk => by omega, Below.refl _ _⟩
    case round =>
      obtain ⟨j, hj, rfl, HS, HW⟩ := hrel
      by_cases hlt : j < n
      · have hjI : (j : Int) < (n : Int) := by omega
        have hN := HN.out
        obtain ⟨b, o, rfl, ca⟩ := HA.out.cel j (by omega)
        obtain ⟨b2, o2, rfl, cb⟩ := HB.out.cel j (by omega)
        have cA := cell_later HW.out ca
        have cB := cell_later HW.out cb
        by_cases heq : l.getD j 0 = m.getD j 0
        · have HS2 : Hid (∀ k, k < j + 1 → l.getD k 0 = m.getD k 0) := fun k hk => by
            by_cases e : k = j
            · subst e; exact heq
            · exact HS.out k (by omega)
          have hne : (((l.getD j 0 : Nat) : Int) != ((m.getD j 0 : Nat) : Int)) = false := neF (by rw [heq])
          have heq2 : ((l.getD j 0 : Nat) : Int) = ((m.getD j 0 : Nat) : Int) := by rw [heq]
          clear ca cb HS hN heq
          generalize l.getD j 0 = x at *
          generalize m.getD j 0 = y at *
          go_wp2
          go_quiet (fail)
          go_wp2
          go_roundw
          case rel => exact ⟨j + 1, by omega, by go_num, HS2, below_drewP HW.out _⟩
          case measure => simp [intOf]; omega
        · have HF : Hid (decide (l = m) = false) := by
            show _ = _
            simp only [decide_eq_false_iff_not]
            intro e
            exact heq (by rw [e])
          have hne : (((l.getD j 0 : Nat) : Int) != ((m.getD j 0 : Nat) : Int)) = true := neT (by omega)
          have heq2 : ¬ ((l.getD j 0 : Nat) : Int) = ((m.getD j 0 : Nat) : Int) := by omega
          clear ca cb HS hN heq
          generalize l.getD j 0 = x at *
          generalize m.getD j 0 = y at *
          go_wp2
          go_quiet (fail)
          go_wp2
          go_ret
          exact ⟨by rw [HF.out]; rfl, below_drewP HW.out _⟩
      · obtain rfl : j = n := by omega
        have hjI : ¬ (j : Int) < (j : Int) := by omega
        have HF : Hid (decide (l = m) = true) := by
          show _ = _
          simp only [decide_eq_true_eq]
          have hN := HN.out
          exact ext0 0 (by omega) (fun k hk => HS.out k (by omega))
        go_wp2
        go_ret
        exact ⟨by rw [HF.out]; rfl, HW.out⟩
  · have hne : ((l.length : Int) != (m.length : Int)) = true := neT (by omega)
    have hnI : ¬ (l.length : Int) = (m.length : Int) := by omega
    have HF : Hid (decide (l = m) = false) := by
      show _ = _
      simp only [decide_eq_false_iff_not]
      intro e
      exact hlen (by rw [e])
    rw [HF.out]
    clear HA HB
    go_enter Tryd.func34, Tryd.ntmps34
    go_wp2
    go_ret
    exact ⟨rfl, Below.refl _ _⟩
theorem is_take_succ {l : List Int} {j : Nat} (h : j < l.length) : l.take (j + 1) = l.take j ++ [l.getD j 0] := by
  rw [List.take_add_one]
  simp [List.getD, h]
theorem oi_made (n : Nat) (hn : n ≤ 1000000) (w : World) : Oi w.heap.size (w.alloc (.cells (madeCells #[.int .i64 0] n) 2)) (.slice (some ⟨w.heap.size, 0, none⟩) 0 n) [] :=
  World.ownsRow_made w _ n (Nat.le_refl _) (by unfold maxLen; omega) (by rw [size_madeCells, Nat.mul_one])
end Go.Proofs.YtkbpcmjdfaokhaaDoor
