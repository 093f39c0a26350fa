/-
Bits that a pack may be written with.
The program's pack: a copy of bytes (bytes.Clone); a writer in memory; what it adds.
The program's pack: what a writer writes (Uint, Int, Fix, Bytes, Ints, Fixes), and its Done.
The program's pack: a reader in memory; what it takes; a count, a whole number, a Fix, a text.
-/
import Derived.Test.YtfcbgkcclganmaaDoorZ16
import Derived.Test.YtfcbgkcclganmaaDoorZ15
import Derived.Test.YtfcbgkcclganmaaDoorZ03
import Derived.Laws.BitsAllLaws

set_option linter.unusedVariables false
set_option linter.unusedSimpArgs false
namespace Go.Proofs.YtfcbgkcclganmaaDoor
open Go.RowKit

theorem bn64 (a : Nat) (ha : a < 18446744073709551616) : (BitVec.ofInt 64 (a : Int)).toNat = a := by
  rw [BitVec.ofInt_natCast, BitVec.toNat_ofNat]; exact Nat.mod_eq_of_lt (by omega)
theorem bn8 (a : Nat) (ha : a < 256) : (BitVec.ofInt 8 (a : Int)).toNat = a := by
  rw [BitVec.ofInt_natCast, BitVec.toNat_ofNat]; exact Nat.mod_eq_of_lt (by omega)
theorem or64p (a b : Nat) (ha : a < 18446744073709551616) (hb : b < 18446744073709551616) : bits .or .u64 (a : Int) (b : Int) = ((a ||| b : Nat) : Int) := by
  have hx : a ||| b < 2 ^ 64 := Nat.or_lt_two_pow (by omega) (by omega)
  show IntKind.u64.wrap ((BitVec.ofInt 64 (a : Int) ||| BitVec.ofInt 64 (b : Int)).toNat : Int) = _
  rw [BitVec.toNat_or, bn64 a ha, bn64 b hb, IntKind.wrap_u64]
  omega
theorem and64p (a b : Nat) (ha : a < 18446744073709551616) (hb : b < 18446744073709551616) : bits .and .u64 (a : Int) (b : Int) = ((a &&& b : Nat) : Int) := by
  have hx : a &&& b < 2 ^ 64 := Nat.and_lt_two_pow _ (by omega)
  show IntKind.u64.wrap ((BitVec.ofInt 64 (a : Int) &&& BitVec.ofInt 64 (b : Int)).toNat : Int) = _
  rw [BitVec.toNat_and, bn64 a ha, bn64 b hb, IntKind.wrap_u64]
  omega
theorem xor64p (a b : Nat) (ha : a < 18446744073709551616) (hb : b < 18446744073709551616) : bits .xor .u64 (a : Int) (b : Int) = ((a ^^^ b : Nat) : Int) := by
  have hx : a ^^^ b < 2 ^ 64 := Nat.xor_lt_two_pow (by omega) (by omega)
  show IntKind.u64.wrap ((BitVec.ofInt 64 (a : Int) ^^^ BitVec.ofInt 64 (b : Int)).toNat : Int) = _
  rw [BitVec.toNat_xor, bn64 a ha, bn64 b hb, IntKind.wrap_u64]
  omega
theorem or8p (a b : Nat) (ha : a < 256) (hb : b < 256) : bits .or .u8 (a : Int) (b : Int) = ((a ||| b : Nat) : Int) := by
  have hx : a ||| b < 2 ^ 8 := Nat.or_lt_two_pow (by omega) (by omega)
  show IntKind.u8.wrap ((BitVec.ofInt 8 (a : Int) ||| BitVec.ofInt 8 (b : Int)).toNat : Int) = _
  rw [BitVec.toNat_or, bn8 a ha, bn8 b hb, IntKind.wrap_u8]
  omega
/-- A number and all ones. -/
theorem ones64 (a : Nat) (ha : a < 18446744073709551616) : bits .xor .u64 (a : Int) 18446744073709551615 = 18446744073709551615 - (a : Int) := by
  have e : BitVec.ofInt 64 (18446744073709551615 : Int) = BitVec.allOnes 64 := by decide
  show IntKind.u64.wrap ((BitVec.ofInt 64 (a : Int) ^^^ BitVec.ofInt 64 (18446744073709551615 : Int)).toNat : Int) = _
  rw [e, BitVec.xor_allOnes, BitVec.toNat_not, bn64 a ha, IntKind.wrap_u64]
  omega
theorem xorI_zero (a : Int) (h0 : -9223372036854775808 ≤ a) (h1 : a ≤ 9223372036854775807) : bits .xor .i64 a 0 = a := by
  have e : BitVec.ofInt 64 (0 : Int) = 0#64 := by decide
  show IntKind.i64.wrap ((BitVec.ofInt 64 a ^^^ BitVec.ofInt 64 (0 : Int)).toNat : Int) = _
  rw [e, BitVec.xor_zero, BitVec.toNat_ofInt, IntKind.wrap_i64]
  omega
theorem xorI_ones (a : Int) (h0 : -9223372036854775808 ≤ a) (h1 : a ≤ 9223372036854775807) : bits .xor .i64 a (-1) = -a - 1 := by
  have e : BitVec.ofInt 64 (-1 : Int) = BitVec.allOnes 64 := by decide
  show IntKind.i64.wrap ((BitVec.ofInt 64 a ^^^ BitVec.ofInt 64 (-1 : Int)).toNat : Int) = _
  rw [e, BitVec.xor_allOnes, BitVec.toNat_not, BitVec.toNat_ofInt, IntKind.wrap_i64]
  omega
/-- Where no bit is in both. -/
theorem or_plus {a k : Nat} (h : a < 2 ^ k) (x : Nat) : a ||| x * 2 ^ k = a + x * 2 ^ k := by
  rw [Nat.or_comm, Nat.mul_comm x, ← Nat.two_pow_add_eq_or_of_lt h, Nat.add_comm]
theorem and_127 (c : Nat) : c &&& 127 = c % 128 := by
  have := Nat.and_two_pow_sub_one_eq_mod c 7
  exact this
theorem and_1 (c : Nat) : c &&& 1 = c % 2 := Nat.and_one_is_mod c
theorem or_128 {x : Nat} (h : x < 128) : x ||| 128 = x + 128 := by
  have := or_plus (a := x) (k := 7) h 1
  exact this
theorem or_128m (c : Nat) (h : c < 256) : c ||| 128 = c % 128 + 128 := by
  by_cases q : c < 128
  · rw [or_128 q, Nat.mod_eq_of_lt q]
  · obtain ⟨d, rfl⟩ : ∃ d, c = d + 128 := ⟨c - 128, by omega⟩
    rw [← or_128 (show d < 128 by omega), Nat.or_assoc, Nat.or_self, or_128 (show d < 128 by omega)]
    omega
end Go.Proofs.YtfcbgkcclganmaaDoor
set_option linter.unusedVariables false
set_option linter.unusedSimpArgs false
namespace Go.Proofs.YtfcbgkcclganmaaDoor
open Go.RowKit

/-- A writer that has written these bytes: its box, and its list. -/
structure Wo (w : World) (b : Nat) (v : Value) (F : Nat → Prop) (l : List Nat) : Prop where
  lt : ∀ k, F k → k < w.heap.size
  fb : F b
  c0 : w.cell? ⟨b, 0, none⟩ = some v
  c1 : w.cell? ⟨b, 1, none⟩ = some (.bool false)
  f0 : w.frozen? ⟨b, 0, none⟩ = false
  f1 : w.frozen? ⟨b, 1, none⟩ = false
  le : l.length ≤ 1048576
  own : Ob 0 w v l
  ob : ∀ k, v.ownBlock = some k → F k ∧ k ≠ b
/-- One that has given up. -/
structure Wb (w : World) (b : Nat) (v : Value) (F : Nat → Prop) : Prop where
  lt : ∀ k, F k → k < w.heap.size
  fb : F b
  c0 : w.cell? ⟨b, 0, none⟩ = some v
  c1 : w.cell? ⟨b, 1, none⟩ = some (.bool true)
def Wp (w : World) (p : Value) (F : Nat → Prop) (s : Sta) : Prop :=
  (p = .pointer none ∧ s = .error 1 ∧ ∀ k, ¬ F k) ∨ ∃ b v, p = .pointer (some ⟨b, 0, none⟩) ∧ ((s = .error 3 ∧ Wb w b v F) ∨ ∃ l, s = .ok l ∧ Wo w b v F l)
theorem cell_blk {w w' : World} {a : Addr} {v : Value} (hb : w'.heap[a.block]? = w.heap[a.block]?) (h : w.cell? a = some v) : w'.cell? a = some v := (World.cell?_of_block hb).trans h
theorem frz_blk {w w' : World} {a : Addr} (hb : w'.heap[a.block]? = w.heap[a.block]?) (h : w.frozen? a = false) : w'.frozen? a = false := (World.frozen?_of_block hb).trans h
theorem Wo.kept {w w' : World} {b : Nat} {v : Value} {F : Nat → Prop} {l : List Nat} (h : Wo w b v F l) (k : ∀ k, F k → w'.heap[k]? = w.heap[k]?) (hs : w.heap.size ≤ w'.heap.size) : Wo w' b v F l :=
  ⟨fun i hi => Nat.lt_of_lt_of_le (h.lt i hi) hs, h.fb, cell_blk (k b h.fb) h.c0, cell_blk (k b h.fb) h.c1, frz_blk (k b h.fb) h.f0, frz_blk (k b h.fb) h.f1, h.le, own_block h.own (fun i hi => k i (h.ob i hi).1), h.ob⟩
theorem Wb.kept {w w' : World} {b : Nat} {v : Value} {F : Nat → Prop} (h : Wb w b v F) (k : ∀ k, F k → w'.heap[k]? = w.heap[k]?) (hs : w.heap.size ≤ w'.heap.size) : Wb w' b v F :=
  ⟨fun i hi => Nat.lt_of_lt_of_le (h.lt i hi) hs, h.fb, cell_blk (k b h.fb) h.c0, cell_blk (k b h.fb) h.c1⟩
theorem Wp.kept {w w' : World} {p : Value} {F : Nat → Prop} {s : Sta} (h : Wp w p F s) (k : ∀ k, F k → w'.heap[k]? = w.heap[k]?) (hs : w.heap.size ≤ w'.heap.size) : Wp w' p F s := by
  rcases h with h | ⟨b, v, e, ⟨e2, h⟩ | ⟨l, e2, h⟩⟩
  · exact Or.inl h
  · exact Or.inr ⟨b, v, e, Or.inl ⟨e2, h.kept k hs⟩⟩
  · exact Or.inr ⟨b, v, e, Or.inr ⟨l, e2, h.kept k hs⟩⟩
theorem Wp.lt {w : World} {p : Value} {F : Nat → Prop} {s : Sta} (h : Wp w p F s) : ∀ k, F k → k < w.heap.size := by
  rcases h with ⟨-, -, h⟩ | ⟨b, v, e, ⟨e2, h⟩ | ⟨l, e2, h⟩⟩
  · exact fun k hk => absurd hk (h k)
  · exact h.lt
  · exact h.lt
theorem Wp.later {w w' : World} {p : Value} {F : Nat → Prop} {s : Sta} (h : Wp w p F s) (hb : Below w.heap.size w w') : Wp w' p F s := h.kept (fun k hk => hb.block k (h.lt k hk)) hb.size
/-- One call behind another. -/
theorem Af.tr {T : World → Value → (Nat → Prop) → Sta → Prop} {p : Value} {F F1 : Nat → Prop} {s : Sta} {w w1 w2 : World} (hG : Gr F F1 w) (hK : Kp F w w1) (h2 : Af T p F1 s w1 w2) : Af T p F s w w2 := by
  obtain ⟨F2, t, g, k⟩ := h2
  have hs := hK.size
  refine ⟨F2, t, fun i hi => ?_, hK.trans k (fun i hi => hG i hi)⟩
  rcases g i hi with q | q
  · exact hG i q
  · exact Or.inr (by omega)
theorem Af.same {T : World → Value → (Nat → Prop) → Sta → Prop} {p : Value} {F : Nat → Prop} {s : Sta} {w : World} (h : T w p F s) : Af T p F s w w := ⟨F, h, fun _ h => Or.inl h, Kp.refl _ _⟩
theorem pt_pt (s : Sta) (a b : List Nat) : pt (pt s a) b = pt s (a ++ b) := by
  cases s with
  | error e => rfl
  | ok l =>
    by_cases h : l.length + a.length ≤ 1048576
    · rw [pt_ok h]
      by_cases h2 : l.length + (a ++ b).length ≤ 1048576
      · rw [pt_ok h2, pt_ok (by rw [List.length_append] at *; omega), List.append_assoc]
      · rw [pt_big (show 1048576 < l.length + (a ++ b).length by omega), pt_big (by rw [List.length_append] at *; omega)]
    · rw [pt_big (by omega), pt_big (by rw [List.length_append]; omega)]
      rfl
theorem pt_nil {w : World} {p : Value} {F : Nat → Prop} {s : Sta} (h : Wp w p F s) : pt s [] = s := by
  rcases h with ⟨-, rfl, -⟩ | ⟨b, v, e, ⟨rfl, h⟩ | ⟨l, rfl, h⟩⟩
  · rfl
  · rfl
  · rw [pt_ok (by have := h.le; simpa using this), List.append_nil]
set_option maxRecDepth 100000 in
set_option maxHeartbeats 1000000 in
theorem add_nil (x : Value) (w : World) : Calls Tryd.prog 39 #[.pointer none, x] w fun e w' => e = .returned (.tuple #[]) ∧ w' = w := by
  go_enter Tryd.func39, Tryd.ntmps39
  go_wp2
  first | go_end0 | refine bodyPost_ret (results_none rfl _ _ _) rfl ?_
  exact ⟨rfl, rfl⟩
set_option maxRecDepth 100000 in
set_option maxHeartbeats 1000000 in
theorem add_big (b : Nat) (v x : Value) (F : Nat → Prop) (w : World) (h : Wb w b v F) : Calls Tryd.prog 39 #[.pointer (some ⟨b, 0, none⟩), x] w fun e w' => e = .returned (.tuple #[]) ∧ w' = w := by
  have c1 := h.c1
  clear h
  go_enter Tryd.func39, Tryd.ntmps39
  go_wp2
  first | go_end0 | refine bodyPost_ret (results_none rfl _ _ _) rfl ?_
  exact ⟨rfl, rfl⟩
set_option maxRecDepth 100000 in
set_option maxHeartbeats 1000000 in
theorem add_full (b : Nat) (v x : Value) (F : Nat → Prop) (l m : List Nat) (w : World) (h : Wo w b v F l) (hx : Bs w x m) (hm : m.length ≤ 2000000) (hbig : 1048576 < l.length + m.length) :
    Calls Tryd.prog 39 #[.pointer (some ⟨b, 0, none⟩), x] w fun e w' => e = .returned (.tuple #[]) ∧ w' = (w.setCell ⟨b, 0, none⟩ (.slice none 0 0)).setCell ⟨b, 1, none⟩ (.bool true) := by
  have c0 := h.c0
  have c1 := h.c1
  have f0 := h.f0
  have f1 := h.f1
  obtain ⟨ad, cap, rfl⟩ := h.own.sl
  obtain ⟨adx, capx, rfl, k1, k2⟩ := hx.len
  have hle := h.le
  obtain ⟨n, hN⟩ : ∃ n, l.length = n := ⟨_, rfl⟩
  obtain ⟨q, hQ⟩ : ∃ q, m.length = q := ⟨_, rfl⟩
  rw [hN] at c0 hle hbig
  rw [hQ] at hm hbig ⊢
  have hsub : IntKind.i64.wrap (1048576 - (n : Int)) = 1048576 - (n : Int) := by rw [IntKind.wrap_i64]; omega
  have hlt : 1048576 - (n : Int) < (q : Int) := by omega
  clear h hx hN hQ k1 k2 hle hm hbig
  go_enter Tryd.func39, Tryd.ntmps39
  go_wp2
  first | go_end0 | refine bodyPost_ret (results_none rfl _ _ _) rfl ?_
  exact ⟨rfl, rfl⟩
set_option maxRecDepth 100000 in
set_option maxHeartbeats 1000000 in
theorem add_room (b : Nat) (v x : Value) (F : Nat → Prop) (l m : List Nat) (w : World) (h : Wo w b v F l) (hx : Bs w x m) (hm : m.length ≤ 2000000) (hnb : l.length + m.length ≤ 1048576) :
    Calls Tryd.prog 39 #[.pointer (some ⟨b, 0, none⟩), x] w fun e w' => e = .returned (.tuple #[]) ∧ ∃ v' F', Wo w' b v' F' (l ++ m) ∧ Gr F F' w ∧ Kp F w w' := by
  have c0 := h.c0
  have c1 := h.c1
  have f0 := h.f0
  have f1 := h.f1
  obtain ⟨ad, cap, rfl⟩ := h.own.sl
  obtain ⟨adx, capx, rfl, k1, k2⟩ := hx.len
  obtain ⟨n, hN⟩ : ∃ n, l.length = n := ⟨_, rfl⟩
  obtain ⟨q, hQ⟩ : ∃ q, m.length = q := ⟨_, rfl⟩
  have HW : Hid (Wo w b (.slice ad n cap) F l) := by rw [hN] at h; exact h
  have HX : Hid (Bs w (.slice adx q capx) m) := by rw [hQ] at hx; exact hx
  have HN : Hid (l.length = n) := hN
  have HQ : Hid (m.length = q) := hQ
  rw [hN] at c0 hnb
  rw [hQ] at hm hnb ⊢
  have hsub : IntKind.i64.wrap (1048576 - (n : Int)) = 1048576 - (n : Int) := by rw [IntKind.wrap_i64]; omega
  have hlt : ¬ 1048576 - (n : Int) < (q : Int) := by omega
  clear h hx hN hQ k1 k2
  go_enter Tryd.func39, Tryd.ntmps39
  go_upto_region 3 with fail
  obtain ⟨t, ht⟩ : ∃ t, (l ++ m).length = t := ⟨_, rfl⟩
  have HT : Hid ((l ++ m).length = t) := ht
  clear ht
  have hbs : some b ≠ Value.ownBlock (.slice ad n cap) := fun e => (HW.out.ob b e.symm).2 rfl
  have hbl := HW.out.lt b HW.out.fb
  go_wp2_with (at_builtin; refine apW rfl _ _ rfl _ l rfl HW.out.own _ m rfl HX.out (by have := HN.out; have := HQ.out; omega) ?_; intro v3 w3 hO3 hg3 hw3; obtain ⟨ad3, cap3, hv3⟩ := hO3.sl; rw [HT.out] at hv3; subst hv3; have HB3 : Hid (w3.heap[b]? = w.heap[b]?) := hg3.block b hbl hbs; have d0 := cell_blk (a := ⟨b, 0, none⟩) HB3.out c0; have e0 := frz_blk (a := ⟨b, 0, none⟩) HB3.out f0; have HO3 : Hid (Ob 0 w3 (.slice ad3 t cap3) (l ++ m)) := hO3; have HG3 : Hid (w.grownBy w3 (Value.ownBlock (.slice ad n cap))) := hg3; have HW3 : Hid (∀ k, Value.ownBlock (.slice ad3 t cap3) = some k → Value.ownBlock (.slice ad n cap) = some k ∨ w.heap.size ≤ k) := hw3; clear hO3 hg3 hw3 c0 f0)
  go_end0
  have hK : Kp F w w3 := ⟨HG3.out.os, HG3.out.tape, HG3.out.output, HG3.out.size, fun k hk hn => HG3.out.block k hk (fun e => hn (HW.out.ob k e.symm).1)⟩
  have hne : ∀ k, Value.ownBlock (.slice ad3 t cap3) = some k → k ≠ b := fun k hk => by
    rcases HW3.out k hk with q | q
    · exact (HW.out.ob k q).2
    · omega
  refine ⟨rfl, .slice ad3 t cap3, fun k => F k ∨ Value.ownBlock (.slice ad3 t cap3) = some k, ⟨?_, Or.inl HW.out.fb, ?_, ?_, ?_, ?_, ?_, ?_, fun k hk => ⟨Or.inr hk, hne k hk⟩⟩, ?_, hK.set (Or.inl HW.out.fb) _⟩
  · intro k hk
    rw [World.size_setCell]
    rcases hk with hk | hk
    · exact Nat.lt_of_lt_of_le (HW.out.lt k hk) HG3.out.size
    · exact (HO3.out.lt k hk).2
  · exact World.cell?_setCell_same' _ _ _ (by rw [d0]; rfl)
  · rw [World.cell?_setCell_other _ _ _ _ (by simp)]; exact cell_blk HB3.out HW.out.c1
  · rw [World.frozen?_setCell]; exact e0
  · rw [World.frozen?_setCell]; exact frz_blk HB3.out HW.out.f1
  · rw [List.length_append, HN.out, HQ.out]; exact hnb
  · exact own_block HO3.out (fun k hk => Below.heap_setCell _ _ _ _ (hne k hk))
  · intro k hk
    rcases hk with hk | hk
    · exact Or.inl hk
    · rcases HW3.out k hk with q | q
      · exact Or.inl (HW.out.ob k q).1
      · exact Or.inr q
theorem add_any (w : World) (p : Value) (F : Nat → Prop) (s : Sta) (x : Value) (m : List Nat) (h : Wp w p F s) (hx : Bs w x m) (hm : m.length ≤ 2000000) :
    Calls Tryd.prog 39 #[p, x] w fun e w' => e = .returned (.tuple #[]) ∧ Af Wp p F (pt s m) w w' := by
  rcases h with ⟨rfl, rfl, hF⟩ | ⟨b, v, rfl, ⟨rfl, h⟩ | ⟨l, rfl, h⟩⟩
  · exact (add_nil x w).mono fun e w' ⟨h1, h2⟩ => ⟨h1, by subst h2; exact Af.same (Or.inl ⟨rfl, rfl, hF⟩)⟩
  · exact (add_big b v x F w h).mono fun e w' ⟨h1, h2⟩ => ⟨h1, by subst h2; exact Af.same (Or.inr ⟨b, v, rfl, Or.inl ⟨rfl, h⟩⟩)⟩
  · by_cases q : l.length + m.length ≤ 1048576
    · refine (add_room b v x F l m w h hx hm q).mono fun e w' h => ?_
      obtain ⟨h1, v', F', h2, h3, h4⟩ := h
      refine ⟨h1, F', Or.inr ⟨b, v', rfl, Or.inr ⟨l ++ m, pt_ok q, h2⟩⟩, h3, h4⟩
    · refine (add_full b v x F l m w h hx hm (by omega)).mono fun e w' h9 => ?_
      obtain ⟨h1, rfl⟩ := h9
      refine ⟨h1, F, Or.inr ⟨b, .slice none 0 0, rfl, Or.inl ⟨pt_big (by omega), ⟨fun k hk => ?_, h.fb, ?_, ?_⟩⟩⟩, fun _ h => Or.inl h, ((Kp.refl F w).set (Or.inl h.fb) _).set (Or.inl h.fb) _⟩
      · rw [World.size_setCell, World.size_setCell]; exact h.lt k hk
      · rw [World.cell?_setCell_other _ _ _ _ (by simp)]; exact World.cell?_setCell_same' _ _ _ (by rw [h.c0]; rfl)
      · refine World.cell?_setCell_same' _ _ _ ?_
        rw [World.cell?_setCell_other _ _ _ _ (by simp), h.c1]; rfl
end Go.Proofs.YtfcbgkcclganmaaDoor
set_option linter.unusedVariables false
set_option linter.unusedSimpArgs false
namespace Go.Proofs.YtfcbgkcclganmaaDoor
open Go.RowKit

set_option maxRecDepth 100000 in
set_option maxHeartbeats 1000000 in
theorem wuint_any (w : World) (p : Value) (F : Nat → Prop) (s : Sta) (n : Nat) (h : Wp w p F s) (hn : n < 18446744073709551616) :
    Calls Tryd.prog 38 #[p, .int .u64 (n : Int)] w fun e w' => e = .returned (.tuple #[]) ∧ Af Wp p F (pt s (enU n)) w w' := by
  have HS : Hid (∃ F1, Wp w p F1 (pt s []) ∧ Gr F F1 w ∧ Kp F w w) := ⟨F, by rw [pt_nil h]; exact h, fun _ h => Or.inl h, Kp.refl _ _⟩
  clear h
  go_enter Tryd.func38, Tryd.ntmps38
  go_upto_region 0 with fail
  go_loopw [1] (fun s1 wr => ∃ (m : Nat) (l : List Nat), m ≤ n ∧ s1 = .int .u64 (m : Int) ∧ Hid (enU n = l ++ enU m) ∧ Hid (∃ F1, Wp wr p F1 (pt s l) ∧ Gr F F1 w ∧ Kp F w wr)) (fun s1 _ => (intOf s1).toNat)
  case atStart => exact ⟨n, [], by omega, rfl, rfl, HS⟩
  case round =>
    clear HS
    obtain ⟨m, l, hm, rfl, HE, HS⟩ := hrel
    by_cases hge : 128 ≤ m
    · have hgeI : (128 : Int) ≤ (m : Int) := by omega
      obtain ⟨r, hr⟩ : ∃ r, m % 256 = r := ⟨_, rfl⟩
      obtain ⟨x, hx⟩ : ∃ x, m % 128 + 128 = x := ⟨_, rfl⟩
      obtain ⟨d, hd⟩ : ∃ d, m / 128 = d := ⟨_, rfl⟩
      have hw1 : IntKind.u8.wrap (m : Int) = (r : Int) := by rw [IntKind.wrap_u8]; omega
      have hor : bits .or .u8 (r : Int) 128 = (x : Int) := by
        have h := or8p r 128 (by omega) (by omega)
        rw [or_128m r (by omega), show r % 128 + 128 = x by omega] at h
        exact h
      have hd1 : (m : Int) / 128 = (d : Int) := by omega
      have hw4 : IntKind.u64.wrap (d : Int) = (d : Int) := by rw [IntKind.wrap_u64]; omega
      have HE2 : Hid (enU n = (l ++ [x]) ++ enU d) := by
        show _ = _
        rw [HE.out, enU_ge hge, hx, hd, List.append_assoc]
        rfl
      have hdm : d < m := by omega
      clear hr hd hx HE
      go_wp2_with fail
      obtain ⟨F1, hW, hG, hK⟩ := HS.out
      refine (add_any _ p F1 _ _ [x] (hW.later (bel1 _ _)) (bs_one wr x _) (by simp)).mono ?_
      rintro e w1 ⟨rfl, hA⟩
      have HS2 : Hid (∃ F1, Wp w1 p F1 (pt s (l ++ [x])) ∧ Gr F F1 w ∧ Kp F w w1) := by
        rw [pt_pt] at hA
        exact Af.tr hG (hK.alloc _) hA
      clear hA HS hW hG hK
      go_wp2
      go_roundw
      case rel => exact ⟨d, l ++ [x], by omega, rfl, HE2, HS2⟩
      case measure => simp only [intOf]; omega
    · have hgeI : ¬ (128 : Int) ≤ (m : Int) := by omega
      have hw3 : IntKind.u8.wrap (m : Int) = (m : Int) := by rw [IntKind.wrap_u8]; omega
      have HE2 : Hid (enU n = l ++ [m]) := by
        show _ = _
        rw [HE.out, enU_lt (by omega)]
      clear HE
      go_wp2_with fail
      obtain ⟨F1, hW, hG, hK⟩ := HS.out
      refine (add_any _ p F1 _ _ [m] (hW.later (bel1 _ _)) (bs_one wr m _) (by simp)).mono ?_
      rintro e w1 ⟨rfl, hA⟩
      have HS2 : Hid (Af Wp p F (pt s (enU n)) w w1) := by
        rw [pt_pt, ← HE2.out] at hA
        exact Af.tr hG (hK.alloc _) hA
      clear hA HS hW hG hK
      go_wp2
      go_end0
      exact ⟨rfl, HS2.out⟩
set_option maxRecDepth 100000 in
set_option maxHeartbeats 1000000 in
theorem wint_any (w : World) (p : Value) (F : Nat → Prop) (s : Sta) (n : Int) (h : Wp w p F s) (hn : okI n) :
    Calls Tryd.prog 21 #[p, .int .i64 n] w fun e w' => e = .returned (.tuple #[]) ∧ Af Wp p F (pt s (enI n)) w w' := by
  obtain ⟨h1, h2⟩ := hn
  have hc := ctI_lt h1 h2
  have HW : Hid (Wp w p F s) := h
  have HE : Hid (enI n = enU (ctI n)) := rfl
  clear h
  by_cases hneg : n < 0
  · obtain ⟨q, hq⟩ : ∃ q : Nat, (q : Int) = -n - 1 := ⟨(-n - 1).toNat, by omega⟩
    have hx : IntKind.i64.wrap (-n - 1) = (q : Int) := by rw [IntKind.wrap_i64]; omega
    have hx3 : bits .xor .i64 n (-1) = (q : Int) := by
      have e : BitVec.ofInt 64 (-1 : Int) = BitVec.allOnes 64 := by decide
      show IntKind.i64.wrap ((BitVec.ofInt 64 n ^^^ BitVec.ofInt 64 (-1 : Int)).toNat : Int) = _
      rw [e, BitVec.xor_allOnes, BitVec.toNat_not, BitVec.toNat_ofInt, IntKind.wrap_i64]
      omega
    have hx4 : bits .xor .i64 (-1) n = (q : Int) := by
      have e : BitVec.ofInt 64 (-1 : Int) = BitVec.allOnes 64 := by decide
      show IntKind.i64.wrap ((BitVec.ofInt 64 (-1 : Int) ^^^ BitVec.ofInt 64 n).toNat : Int) = _
      rw [e, BitVec.xor_comm, BitVec.xor_allOnes, BitVec.toNat_not, BitVec.toNat_ofInt, IntKind.wrap_i64]
      omega
    have hq2 : q < 9223372036854775808 := by omega
    have hw1 : IntKind.u64.wrap (q : Int) = (q : Int) := by rw [IntKind.wrap_u64]; omega
    have hw2 : IntKind.u64.wrap ((q : Int) * 2) = ((2 * q : Nat) : Int) := by rw [IntKind.wrap_u64]; omega
    have hor : bits .or .u64 ((2 * q : Nat) : Int) 1 = ((ctI n : Nat) : Int) := by
      have h := or64p (2 * q) 1 (by omega) (by omega)
      have e : 2 * q ||| 1 = ctI n := by
        have e2 : 2 * q ||| 1 = 2 * q + 1 := by
          have := (Nat.two_pow_add_eq_or_of_lt (i := 1) (b := 1) (by decide) q).symm
          simpa [Nat.mul_comm] using this
        rw [e2]
        unfold ctI
        rw [if_pos hneg]
        omega
      rw [e] at h
      exact h
    clear hq
    generalize ctI n = c at *
    generalize 2 * q = q2 at *
    go_enter Tryd.func21, Tryd.ntmps21
    go_wp2_with fail
    refine (wuint_any w p F s c HW.out hc).mono ?_
    rintro e w1 ⟨rfl, hA⟩
    have HA : Hid (Af Wp p F (pt s (enU c)) w w1) := hA
    clear hA
    go_wp2
    refine bodyPost_ret (results_none rfl _ _ _) rfl ?_
    exact ⟨rfl, by rw [HE.out]; exact HA.out⟩
  · obtain ⟨q, hq⟩ : ∃ q : Nat, n = (q : Int) := ⟨n.toNat, by omega⟩
    subst hq
    have hneg2 : ¬ (q : Int) < 0 := hneg
    have hw1 : IntKind.u64.wrap (q : Int) = (q : Int) := by rw [IntKind.wrap_u64]; omega
    have hw2 : IntKind.u64.wrap ((q : Int) * 2) = ((ctI q : Nat) : Int) := by
      rw [IntKind.wrap_u64]
      unfold ctI
      rw [if_neg hneg]
      omega
    generalize ctI q = c at *
    go_enter Tryd.func21, Tryd.ntmps21
    go_wp2_with fail
    refine (wuint_any w p F s c HW.out hc).mono ?_
    rintro e w1 ⟨rfl, hA⟩
    have HA : Hid (Af Wp p F (pt s (enU c)) w w1) := hA
    clear hA
    go_wp2
    go_end0
    exact ⟨rfl, by rw [HE.out]; exact HA.out⟩
theorem fix_byte (x : Int) (i : Nat) (h1 : -9223372036854775808 ≤ x) (h2 : x ≤ 9223372036854775807) (hi : i < 8) : x / 2 ^ (8 * i) % 256 = ((u64 x / 256 ^ i % 256 : Nat) : Int) := by
  have hu : (u64 x : Int) = x % 18446744073709551616 := by unfold u64; split <;> omega
  generalize u64 x = U at *
  match i, hi with
  | 0, _ => simp; omega
  | 1, _ => simp; omega
  | 2, _ => simp; omega
  | 3, _ => simp; omega
  | 4, _ => simp; omega
  | 5, _ => simp; omega
  | 6, _ => simp; omega
  | 7, _ => simp; omega
theorem enN_take (n : Nat) : ∀ (k i : Nat), i < k → (enN n k).take (i + 1) = (enN n k).take i ++ [n / 256 ^ i % 256] := by
  intro k i hi
  have hget : ∀ (k i n : Nat), i < k → (enN n k)[i]? = some (n / 256 ^ i % 256) := by
    intro k
    induction k with
    | zero => intro i n h; omega
    | succ k ih =>
      intro i n h
      match i with
      | 0 => simp [enN]
      | i + 1 =>
        show (enN (n / 256) k)[i]? = _
        rw [ih i (n / 256) (by omega), Nat.div_div_eq_div_mul, Nat.pow_succ, Nat.mul_comm]
  rw [List.take_add_one, hget k i n hi]
  rfl
set_option maxRecDepth 100000 in
set_option maxHeartbeats 1000000 in
theorem wbytes_any (w : World) (p : Value) (F : Nat → Prop) (s : Sta) (v : Value) (l : List Nat) (h : Wp w p F s) (hv : Bs w v l) (hn : Nf F v) (hl : l.length ≤ 2000000) :
    Calls Tryd.prog 20 #[p, v] w fun e w' => e = .returned (.tuple #[]) ∧ Af Wp p F (pt s (enB l)) w w' := by
  have HW : Hid (Wp w p F s) := h
  have HL : Hid (Bs w v l ∧ Nf F v) := ⟨hv, hn⟩
  obtain ⟨ad, cap, rfl, k1, k2⟩ := hv.len
  obtain ⟨n, hN⟩ : ∃ n, l.length = n := ⟨_, rfl⟩
  have HN : Hid (l.length = n) := hN
  rw [hN] at HL hl k1 ⊢
  have hw1 : IntKind.u64.wrap (n : Int) = (n : Int) := by rw [IntKind.wrap_u64]; omega
  clear h hv hn hN k1 k2
  go_enter Tryd.func20, Tryd.ntmps20
  go_wp2_with fail
  refine (wuint_any w p F s n HW.out (by omega)).mono ?_
  rintro e w1 ⟨rfl, hA⟩
  obtain ⟨F1, hW1, hG, hK⟩ := hA
  have HA : Hid (Wp w1 p F1 (pt s (enU n)) ∧ Gr F F1 w ∧ Kp F w w1) := ⟨hW1, hG, hK⟩
  clear hW1 hG hK
  go_wp2_with fail
  refine (add_any _ p F1 _ _ l HA.out.1 (HA.out.2.2.bs HL.out.1 HL.out.2) (by rw [HN.out]; exact hl)).mono ?_
  rintro e w2 ⟨rfl, hA2⟩
  have HA2 : Hid (Af Wp p F (pt s (enB l)) w w2) := by
    rw [pt_pt] at hA2
    have := Af.tr HA.out.2.1 HA.out.2.2 hA2
    show Af Wp p F (pt s (enU l.length ++ l)) w w2
    rw [HN.out]
    exact this
  clear hA2 HA
  go_wp2
  go_end0
  exact ⟨rfl, HA2.out⟩
theorem flat_takeP {α : Type} (l : List α) (d : α) (f : α → List Nat) (j : Nat) (hj : j < l.length) : (l.take (j + 1)).flatMap f = (l.take j).flatMap f ++ f (l.getD j d) := by
  have e : l.getD j d = l[j] := by simp [List.getD, hj]
  rw [List.take_add_one, List.flatMap_append, e]
  simp [hj]
theorem getI_mem {l : List Int} {j : Nat} (h : j < l.length) : l.getD j 0 ∈ l := by
  have e : l.getD j 0 = l[j] := by simp [List.getD, h]
  rw [e]
  exact List.getElem_mem h
set_option maxRecDepth 100000 in
set_option maxHeartbeats 1000000 in
theorem wdone_any (w : World) (p : Value) (F : Nat → Prop) (s : Sta) (h : Wp w p F s) :
    Calls Tryd.prog 23 #[p] w fun e w' => ∃ v, e = .returned (.tuple #[v, .int .i64 ((dnE s : Nat) : Int)]) ∧ Bs w' v (dnV s) ∧ Ow w.heap.size v ∧ Below w.heap.size w w' := by
  rcases h with ⟨rfl, rfl, hF⟩ | ⟨b, v, rfl, ⟨rfl, h⟩ | ⟨l, rfl, h⟩⟩
  · go_enter Tryd.func23, Tryd.ntmps23
    go_wp2
    go_ret2
    exact ⟨.slice none 0 0, rfl, ls_none _ _, (fun a n cap e => by cases e), Below.refl _ _⟩
  · have c1 := h.c1
    clear h
    go_enter Tryd.func23, Tryd.ntmps23
    go_wp2
    go_ret2
    exact ⟨.slice none 0 0, rfl, ls_none _ _, (fun a n cap e => by cases e), Below.refl _ _⟩
  · have c0 := h.c0
    have c1 := h.c1
    have HO : Hid (Bs w v l) := h.own.bs.1
    have HN : Hid (l.length ≤ 10000000) := by have := h.le; show _ ≤ _; omega
    obtain ⟨ad, cap, rfl⟩ := h.own.sl
    clear h
    go_enter Tryd.func23, Tryd.ntmps23
    go_wp2_with fail
    refine (clone_any w _ l HO.out HN.out).mono ?_
    rintro e w1 ⟨v', rfl, hO, hB⟩
    have HX : Hid (Bs w1 v' l ∧ Ow w.heap.size v' ∧ Below w.heap.size w w1) := ⟨hO.bs.1, hO.bs.2, hB⟩
    obtain ⟨ad2, cap2, rfl⟩ := hO.sl
    clear hO hB
    go_wp2
    go_ret2
    exact ⟨_, rfl, HX.out.1, HX.out.2.1, HX.out.2.2⟩
end Go.Proofs.YtfcbgkcclganmaaDoor
set_option linter.unusedVariables false
set_option linter.unusedSimpArgs false
namespace Go.Proofs.YtfcbgkcclganmaaDoor
open Go.RowKit

/-- A list that lies in these blocks, and not in that one. -/
def Lf (F : Nat → Prop) (b : Nat) (v : Value) : Prop := ∀ (a : Addr) (n cap : Nat), v = .slice (some a) n cap → 0 < n → F a.block ∧ a.block ≠ b
/-- A reader that has these bytes left. -/
structure Ro (w : World) (b : Nat) (F : Nat → Prop) (l : List Nat) : Prop where
  lt : ∀ k, F k → k < w.heap.size
  fb : F b
  c0 : w.cell? ⟨b, 0, none⟩ = some (.bool true)
  c1 : ∃ v, w.cell? ⟨b, 1, none⟩ = some v ∧ Bs w v l ∧ Lf F b v
  c2 : w.cell? ⟨b, 2, none⟩ = some (.int .i64 0)
  f1 : w.frozen? ⟨b, 1, none⟩ = false
  f2 : w.frozen? ⟨b, 2, none⟩ = false
  yt : ∀ c ∈ l, c < 256
  le : l.length ≤ 10000000
theorem Lf.nf {F : Nat → Prop} {b : Nat} {v : Value} (h : Lf F b v) : Nf (fun i => i = b) v := fun a n cap e hn q => (h a n cap e hn).2 q
theorem Ro.kept {w w' : World} {b : Nat} {F : Nat → Prop} {l : List Nat} (h : Ro w b F l) (k : ∀ k, F k → w'.heap[k]? = w.heap[k]?) (hs : w.heap.size ≤ w'.heap.size) : Ro w' b F l := by
  refine ⟨fun i hi => Nat.lt_of_lt_of_le (h.lt i hi) hs, h.fb, cell_blk (k b h.fb) h.c0, ?_, cell_blk (k b h.fb) h.c2, frz_blk (k b h.fb) h.f1, frz_blk (k b h.fb) h.f2, h.yt, h.le⟩
  obtain ⟨v, h1, h2, h3⟩ := h.c1
  refine ⟨v, cell_blk (k b h.fb) h1, ?_, h3⟩
  obtain ⟨adr, cap, q, o, rfl, h4, h5, h6, h7⟩ := h2
  refine ⟨adr, cap, q, o, rfl, h4, h5, h6, fun j hj => ?_⟩
  have e := h6 (by omega)
  subst e
  exact cell_blk (k q (h3 ⟨q, o, none⟩ _ cap rfl (by omega)).1) (h7 j hj)
theorem Ro.later {w w' : World} {b : Nat} {F : Nat → Prop} {l : List Nat} (h : Ro w b F l) (hb : Below w.heap.size w w') : Ro w' b F l := h.kept (fun k hk => hb.block k (h.lt k hk)) hb.size
theorem sl_h (w : World) (ad : Option Addr) (n cap q : Nat) (h2 : q ≤ cap) :
    (Instr.slice 22 (.slice ad n cap) none (some (.int .u64 (q : Int))) none).run Tryd.prog w = .ok (sv ad 0 q cap) w := by
  have ht : Tryd.prog.underlying 22 = some (.slice (Tryd.prog.elem 22)) := by kernel_rfl
  have hs : (sizeOf (Tryd.prog.elem 22)).run Tryd.prog w = .ok 1 w := by
    obtain ⟨i0, hti, hi0, hi1, hi2⟩ := byteInfo
    have e : Tryd.prog.elem 22 = 5 := by kernel_rfl
    rw [e]
    simp [sizeOf, typeInfo, hti, hi1]
  rw [run_slice_h w 22 ad n cap ht .u64 (q : Int) (by omega) (by omega), hs]
  simp [Result.andThen, sliced, sv]
theorem sl_l (w : World) (ad : Option Addr) (n cap p : Nat) (h2 : p ≤ n) :
    (Instr.slice 22 (.slice ad n cap) (some (.int .u64 (p : Int))) none none).run Tryd.prog w = .ok (sv ad p n cap) w := by
  have ht : Tryd.prog.underlying 22 = some (.slice (Tryd.prog.elem 22)) := by kernel_rfl
  have hs : (sizeOf (Tryd.prog.elem 22)).run Tryd.prog w = .ok 1 w := by
    obtain ⟨i0, hti, hi0, hi1, hi2⟩ := byteInfo
    have e : Tryd.prog.elem 22 = 5 := by kernel_rfl
    rw [e]
    simp [sizeOf, typeInfo, hti, hi1]
  rw [run_slice_l w 22 ad n cap ht .u64 (p : Int) (by omega) (by omega), hs]
  simp [Result.andThen, sliced, sv]
theorem sv_lf {F : Nat → Prop} {b : Nat} {ad : Option Addr} {n cap : Nat} (p q : Nat) (hq : q ≤ n) (h : Lf F b (.slice ad n cap)) : Lf F b (sv ad p q cap) := by
  intro a m c e hm
  unfold sv at e
  cases ad with
  | none => split at e <;> cases e
  | some d =>
    have hd := h d n cap rfl
    split at e
    · injection e with e1 e2 e3
      injection e1 with e1
      subst e1
      exact hd (by omega)
    · injection e with e1 e2 e3
      injection e1 with e1
      have hb : a.block = d.block := by
        rw [← e1]
        show (d.add p).block = d.block
        unfold Addr.add
        split <;> rfl
      rw [hb]
      exact hd (by omega)
set_option maxRecDepth 100000 in
set_option maxHeartbeats 1000000 in
theorem take_lack (b n : Nat) (F : Nat → Prop) (l : List Nat) (w : World) (h : Ro w b F l) (hn : l.length < n) (hn2 : n < 18446744073709551616) :
    Calls Tryd.prog 69 #[.pointer (some ⟨b, 0, none⟩), .int .u64 (n : Int)] w fun e w' => e = .panicked [{ v := .iface 28 (.int .i64 120), recovered := false }] ∧ w' = w := by
  obtain ⟨v, c1, hb, -⟩ := h.c1
  obtain ⟨ad, cap, rfl, -, -⟩ := hb.len
  have hle := h.le
  obtain ⟨m, hm⟩ : ∃ m, l.length = m := ⟨_, rfl⟩
  rw [hm] at c1 hn hle
  have hw : IntKind.u64.wrap (m : Int) = (m : Int) := by rw [IntKind.wrap_u64]; omega
  have hI : (m : Int) < (n : Int) := by omega
  clear hb h hm hn hle
  go_enter Tryd.func69, Tryd.ntmps69
  go_wp2
  exact ⟨rfl, rfl, rfl⟩
set_option maxRecDepth 100000 in
set_option maxHeartbeats 1000000 in
theorem take_some (b n : Nat) (F : Nat → Prop) (l : List Nat) (w : World) (h : Ro w b F l) (hn : n ≤ l.length) :
    Calls Tryd.prog 69 #[.pointer (some ⟨b, 0, none⟩), .int .u64 (n : Int)] w fun e w' => ∃ v, e = .returned v ∧ Bs w' v (l.take n) ∧ Lf F b v ∧ Ro w' b F (l.drop n) ∧ Kp (fun i => i = b) w w' := by
  obtain ⟨v, c1, hb, hf⟩ := h.c1
  obtain ⟨ad, cap, rfl, k1, k2⟩ := hb.len
  have hle := h.le
  have f1 := h.f1
  have HB : Hid (Bs w (sv ad 0 n cap) (l.take n) ∧ Lf F b (sv ad 0 n cap) ∧ Bs w (sv ad n l.length cap) (l.drop n) ∧ Lf F b (sv ad n l.length cap)) := by
    have h1 := sv_bs hb 0 n (Nat.zero_le _) hn
    have h2 := sv_bs hb n l.length hn (Nat.le_refl _)
    rw [List.drop_zero, Nat.sub_zero] at h1
    rw [List.take_of_length_le (by rw [List.length_drop]; omega)] at h2
    exact ⟨h1, sv_lf 0 n hn hf, h2, sv_lf n _ (Nat.le_refl _) hf⟩
  have HR : Hid (Ro w b F l) := h
  obtain ⟨m, hm⟩ : ∃ m, l.length = m := ⟨_, rfl⟩
  rw [hm] at c1 hn hle HB k1
  have s1 : (Instr.slice 22 (.slice ad m cap) none (some (.int .u64 (n : Int))) none).run Tryd.prog w = .ok (sv ad 0 n cap) w := sl_h w ad m cap n (by omega)
  have s2 : (Instr.slice 22 (.slice ad m cap) (some (.int .u64 (n : Int))) none none).run Tryd.prog w = .ok (sv ad n m cap) w := sl_l w ad m cap n (by omega)
  obtain ⟨A1, m1, d1, hs1⟩ : ∃ A1 m1 d1, sv ad 0 n cap = .slice A1 m1 d1 := ⟨_, _, _, rfl⟩
  obtain ⟨A2, m2, d2, hs2⟩ : ∃ A2 m2 d2, sv ad n m cap = .slice A2 m2 d2 := ⟨_, _, _, rfl⟩
  rw [hs1] at s1 HB
  rw [hs2] at s2 HB
  have hw : IntKind.u64.wrap (m : Int) = (m : Int) := by rw [IntKind.wrap_u64]; omega
  have hI : ¬ (m : Int) < (n : Int) := by omega
  clear hb h hm hn hle hs1 hs2 hf k1 k2
  go_enter Tryd.func69, Tryd.ntmps69
  go_wp2
  go_ret
  have hK : Kp (fun i => i = b) w (w.setCell ⟨b, 1, none⟩ (.slice A2 m2 d2)) := (Kp.refl (fun i => i = b) w).set (p := ⟨b, 1, none⟩) (Or.inl rfl) _
  have hR := HR.out
  obtain ⟨x1, x2, x3, x4⟩ := HB.out
  refine ⟨_, rfl, hK.bs x1 x2.nf, x2, ⟨?_, hR.fb, ?_, ⟨_, World.cell?_setCell_same' _ _ _ (by rw [c1]; rfl), hK.bs x3 x4.nf, x4⟩, ?_, ?_, ?_, fun c hc => hR.yt c (List.mem_of_mem_drop hc), ?_⟩, hK⟩
  · intro k hk; rw [World.size_setCell]; exact hR.lt k hk
  · rw [World.cell?_setCell_other _ _ _ _ (by simp)]; exact hR.c0
  · rw [World.cell?_setCell_other _ _ _ _ (by simp)]; exact hR.c2
  · rw [World.frozen?_setCell]; exact hR.f1
  · rw [World.frozen?_setCell]; exact hR.f2
  · rw [List.length_drop]; have := hR.le; omega
/-- How a reading ends: a thing and what is left, or an error. -/
def EndR {α : Type} (b : Nat) (F : Nat → Prop) (A : α → Value → World → Prop) (w : World) (r : Except Nat (α × List Nat)) (e : Ending) (w' : World) : Prop :=
  Kp (fun i => i = b) w w' ∧ match r with
  | .ok (x, t) => ∃ v, e = .returned v ∧ A x v w' ∧ Ro w' b F t
  | .error x => e = .panicked [{ v := .iface 28 (.int .i64 (x : Int)), recovered := false }] ∧ ∃ t, Ro w' b F t
theorem EndR.good {α : Type} {b : Nat} {F : Nat → Prop} {A : α → Value → World → Prop} {w w' : World} {r : Except Nat (α × List Nat)} {e : Ending} {x : α} {t : List Nat} (h : EndR b F A w r e w') (hr : r = .ok (x, t)) : Kp (fun i => i = b) w w' ∧ ∃ v, e = .returned v ∧ A x v w' ∧ Ro w' b F t := by subst hr; exact h
theorem EndR.bad {α : Type} {b : Nat} {F : Nat → Prop} {A : α → Value → World → Prop} {w w' : World} {r : Except Nat (α × List Nat)} {e : Ending} {x : Nat} (h : EndR b F A w r e w') (hr : r = .error x) : Kp (fun i => i = b) w w' ∧ e = .panicked [{ v := .iface 28 (.int .i64 (x : Int)), recovered := false }] ∧ ∃ t, Ro w' b F t := by subst hr; exact h
theorem EndR.mkGood {α : Type} {b : Nat} {F : Nat → Prop} {A : α → Value → World → Prop} {w w' : World} {r : Except Nat (α × List Nat)} {e : Ending} {x : α} {t : List Nat} (hr : r = .ok (x, t)) (h : Kp (fun i => i = b) w w' ∧ ∃ v, e = .returned v ∧ A x v w' ∧ Ro w' b F t) : EndR b F A w r e w' := by subst hr; exact h
theorem EndR.mkBad {α : Type} {b : Nat} {F : Nat → Prop} {A : α → Value → World → Prop} {w w' : World} {r : Except Nat (α × List Nat)} {e : Ending} {x : Nat} (hr : r = .error x) (h : Kp (fun i => i = b) w w' ∧ e = .panicked [{ v := .iface 28 (.int .i64 (x : Int)), recovered := false }] ∧ ∃ t, Ro w' b F t) : EndR b F A w r e w' := by subst hr; exact h
def AU (x : Nat) (v : Value) (_ : World) : Prop := v = .int .u64 (x : Int)
def AI (x : Int) (v : Value) (_ : World) : Prop := v = .int .i64 x
set_option maxRecDepth 100000 in
set_option maxHeartbeats 2000000 in
theorem count_any (b : Nat) (F : Nat → Prop) (l : List Nat) (w : World) (h : Ro w b F l) :
    Calls Tryd.prog 67 #[.pointer (some ⟨b, 0, none⟩)] w fun e w' => EndR b F AU w (rU l) e w' := by
  have HR : Hid (Ro w b F l) := h
  clear h
  go_enter Tryd.func67, Tryd.ntmps67
  go_upto_region 4 with fail
  go_loopw [3, 4] (fun s3 s4 wr => ∃ k a p t, k ≤ 9 ∧ p = 7 * k ∧ s3 = .int .u64 ((a : Nat) : Int) ∧ s4 = .int .i64 ((p : Nat) : Int) ∧ Hid (a < 2 ^ (7 * k)) ∧ Hid (Ro wr b F t) ∧ Hid (rdU t k a = rU l) ∧ Hid (Kp (fun i => i = b) w wr)) (fun _ s4 _ => 100 - (intOf s4).toNat)
  case atStart => exact ⟨0, 0, 0, l, by omega, rfl, rfl, rfl, by show (0 : Nat) < 1; omega, HR, rfl, Kp.refl _ _⟩
  case round =>
    clear HR
    obtain ⟨k, a, p, t, hk, hp, rfl, rfl, HA, HR, HE, HK⟩ := hrel
    cases t with
    | nil =>
      have HX : Hid (rU l = .error 120) := by show _ = _; rw [← HE.out]; rfl
      clear hp
      go_wp2_with fail
      refine (take_lack b 1 F _ _ HR.out (by simp) (by omega)).mono ?_
      rintro e w1 ⟨rfl, rfl⟩
      go_wp2
      exact ⟨rfl, EndR.mkBad HX.out ⟨HK.out, rfl, _, HR.out⟩⟩
    | cons c t =>
      have hc : c < 256 := HR.out.yt c (List.mem_cons_self ..)
      have HP : Hid (p = 7 * k) := hp
      clear hp
      go_wp2_with fail
      refine (take_some b 1 F _ _ HR.out (by simp)).mono ?_
      rintro e w1 ⟨v1, rfl, hb1, -, hR1, hK1⟩
      have HR1 : Hid (Ro w1 b F t) := hR1
      have HK1 : Hid (Kp (fun i => i = b) w w1) := HK.out.trans hK1 (fun i hi => Or.inl hi)
      obtain ⟨g, o, cap, e1, c1⟩ := hb1.at 0 (by simp)
      have e2 : v1 = .slice (some ⟨g, o, none⟩) 1 cap := by simpa using e1
      have c2 : w1.cell? ⟨g, o, none⟩ = some (.int .u8 (c : Int)) := by simpa using c1
      subst e2
      clear hR1 hK1 HR HK hb1 e1 c1
      by_cases hz : c = 0 ∧ 0 < k
      · have HX : Hid (rU l = .error 121) := by
          show _ = _
          rw [← HE.out]
          exact rd_long (by omega) (by omega) hz
        have hzI : (c : Int) = 0 := by omega
        have hkI : (0 : Int) < (p : Int) := by have := HP.out; omega
        go_wp2
        exact ⟨rfl, EndR.mkBad HX.out ⟨HK1.out, rfl, _, HR1.out⟩⟩
      · by_cases q1 : k = 9 ∧ 1 < c
        · have HX : Hid (rU l = .error 121) := by show _ = _; rw [← HE.out]; exact rd_form q1
          have q2I : (1 : Int) < (c : Int) := by omega
          have hpI : (p : Int) = 63 := by have := HP.out; omega
          have hzI : ¬ (c : Int) = 0 := by omega
          have hkI : (0 : Int) < (p : Int) := by omega
          go_wp2
          exact ⟨rfl, EndR.mkBad HX.out ⟨HK1.out, rfl, _, HR1.out⟩⟩
        · obtain ⟨x, hx⟩ : ∃ x, c % 128 = x := ⟨_, rfl⟩
          have hx2 : x < 128 := by omega
          obtain ⟨s1, s2⟩ := sum7 hk HA.out hx2 hx q1
          obtain ⟨y, hy⟩ : ∃ y, x * 2 ^ (7 * k) = y := ⟨_, rfl⟩
          obtain ⟨s, hs⟩ : ∃ s, a + c % 128 * 2 ^ (7 * k) = s := ⟨_, rfl⟩
          have HS : Hid (a + y = s) := by
            show _ = _
            rw [← hs, hx, hy]
          have hand : bits .andNot .u8 (c : Int) 128 = (x : Int) := by
            have h := u8_andNot_nat c 128 hc (by omega)
            rw [show 255 - 128 = 127 by rfl, and_127, hx] at h
            exact h
          have hw2 : IntKind.u64.wrap (x : Int) = (x : Int) := by rw [IntKind.wrap_u64]; omega
          have hyI : (x : Int) * 2 ^ p = (y : Int) := by rw [← hy, Int.natCast_mul, Int.natCast_pow, HP.out]; rfl
          have hor : bits .or .u64 (a : Int) (y : Int) = (s : Int) := by
            rw [or64p a y (by omega) (by omega), ← hy, or_plus HA.out, hy, HS.out]
          rw [hy] at s1 s2
          have hw3 : IntKind.u64.wrap (y : Int) = (y : Int) := by rw [IntKind.wrap_u64]; omega
          have h70 : ¬ ((p : Int) < 0) := by omega
          have h64 : p < 64 := by have := HP.out; omega
          have hcnd : ∀ A B C D : Bool, A = decide ((0 : Int) < (p : Int)) → B = decide ((c : Int) = 0) → C = decide ((p : Int) = 63) → D = decide ((1 : Int) < (c : Int)) → (A && B || C && D) = false := by
            intro A B C D hA hB hC hD
            subst hA hB hC hD
            have := HP.out
            simp
            omega
          by_cases hc2 : c < 128
          · have HX : Hid (rU l = .ok (s, t)) := by show _ = _; rw [← HE.out, rd_last q1 hc2 hz, hs]
            have hc2I : (c : Int) < 128 := by omega
            have fin : Hid (EndR b F AU w (rU l) (.returned (.int .u64 (s : Int))) w1) := EndR.mkGood HX.out ⟨HK1.out, _, rfl, rfl, HR1.out⟩
            clear HX HE HS hs hcnd
            by_cases h9 : k = 9
            · have hpI : (p : Int) = 63 := by have := HP.out; omega
              have hcI : ¬ (1 : Int) < (c : Int) := by omega
              have hkI : (0 : Int) < (p : Int) := by omega
              have hzI : ¬ (c : Int) = 0 := by omega
              have hy5 : (x : Int) * 9223372036854775808 = (y : Int) := by
                have e : y = x * 9223372036854775808 := by rw [← hy, h9]
                omega
              have hdd : (((c : Int) == 0) || decide ((1 : Int) < (c : Int))) = false := by simp; omega
              clear h9 hyI hy
              go_wp2
              go_ret
              exact fin.out
            · have hpI : ¬ (p : Int) = 63 := by have := HP.out; omega
              by_cases hk0 : 0 < k
              · have hkI : (0 : Int) < (p : Int) := by have := HP.out; omega
                have hzI : ¬ (c : Int) = 0 := by omega
                go_wp2
                go_ret
                exact fin.out
              · have hkI : ¬ (0 : Int) < (p : Int) := by have := HP.out; omega
                go_wp2
                go_ret
                exact fin.out
          · have HX : Hid (rdU t (k + 1) s = rU l) := by show _ = _; rw [← HE.out, rd_more q1 hc2, hs]
            have hc2I : ¬ (c : Int) < 128 := by omega
            have hpI : ¬ (p : Int) = 63 := by have := HP.out; omega
            have hzI : ¬ (c : Int) = 0 := by omega
            have HA2 : Hid (s < 2 ^ (7 * (k + 1))) := by
              show _ < _
              rw [← HS.out, ← hy]
              exact next7 HA.out hx2
            have hp1 : IntKind.i64.wrap ((p : Int) + 7) = ((p + 7 : Nat) : Int) := by have := HP.out; rw [IntKind.wrap_i64]; omega
            clear HE HS hs HA hcnd
            by_cases hk0 : 0 < k
            · have hkI : (0 : Int) < (p : Int) := by have := HP.out; omega
              go_wp2
              go_roundw
              case rel => exact ⟨k + 1, s, p + 7, t, by omega, by have := HP.out; omega, rfl, rfl, HA2, HR1, HX, HK1⟩
              case measure => have := HP.out; simp [intOf]; omega
            · have hkI : ¬ (0 : Int) < (p : Int) := by have := HP.out; omega
              go_wp2
              go_roundw
              case rel => exact ⟨k + 1, s, p + 7, t, by omega, by have := HP.out; omega, rfl, rfl, HA2, HR1, HX, HK1⟩
              case measure => have := HP.out; simp [intOf]; omega
end Go.Proofs.YtfcbgkcclganmaaDoor
