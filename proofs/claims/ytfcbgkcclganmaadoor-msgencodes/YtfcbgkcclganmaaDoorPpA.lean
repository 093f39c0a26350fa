/-
  The program's pack: a copy of bytes (bytes.Clone); a writer in memory; what it adds.
-/
import Derived.Test.YtfcbgkcclganmaaDoorPkDefs
import Derived.Test.YtfcbgkcclganmaaDoorPkBits
import Derived.Test.YtfcbgkcclganmaaDoorPkOwn
set_option linter.unusedVariables false
set_option linter.unusedSimpArgs false
namespace Go.Proofs.YtfcbgkcclganmaaDoor
open Go.RowKit

/-- A writer that has written these bytes: its box, and its list. -/
structure Wo (w : World) (b : Nat) (v : Value) (F : Nat → Prop) (l : List Nat) : Prop where
  lt : ∀ k, F k → k < w.heap.size
  fb : F b
  c0 : w.cell? ⟨b, 0, none⟩ = some v
  c1 : w.cell? ⟨b, 1, none⟩ = some (.bool false)
  f0 : w.frozen? ⟨b, 0, none⟩ = false
  f1 : w.frozen? ⟨b, 1, none⟩ = false
  le : l.length ≤ 1048576
  own : Ob 0 w v l
  ob : ∀ k, v.ownBlock = some k → F k ∧ k ≠ b
/-- One that has given up. -/
structure Wb (w : World) (b : Nat) (v : Value) (F : Nat → Prop) : Prop where
  lt : ∀ k, F k → k < w.heap.size
  fb : F b
  c0 : w.cell? ⟨b, 0, none⟩ = some v
  c1 : w.cell? ⟨b, 1, none⟩ = some (.bool true)
def Wp (w : World) (p : Value) (F : Nat → Prop) (s : Sta) : Prop :=
  (p = .pointer none ∧ s = .error 1 ∧ ∀ k, ¬ F k) ∨ ∃ b v, p = .pointer (some ⟨b, 0, none⟩) ∧ ((s = .error 3 ∧ Wb w b v F) ∨ ∃ l, s = .ok l ∧ Wo w b v F l)
theorem cell_blk {w w' : World} {a : Addr} {v : Value} (hb : w'.heap[a.block]? = w.heap[a.block]?) (h : w.cell? a = some v) : w'.cell? a = some v := (World.cell?_of_block hb).trans h
theorem frz_blk {w w' : World} {a : Addr} (hb : w'.heap[a.block]? = w.heap[a.block]?) (h : w.frozen? a = false) : w'.frozen? a = false := (World.frozen?_of_block hb).trans h
theorem Wo.kept {w w' : World} {b : Nat} {v : Value} {F : Nat → Prop} {l : List Nat} (h : Wo w b v F l) (k : ∀ k, F k → w'.heap[k]? = w.heap[k]?) (hs : w.heap.size ≤ w'.heap.size) : Wo w' b v F l :=
  ⟨fun i hi => Nat.lt_of_lt_of_le (h.lt i hi) hs, h.fb, cell_blk (k b h.fb) h.c0, cell_blk (k b h.fb) h.c1, frz_blk (k b h.fb) h.f0, frz_blk (k b h.fb) h.f1, h.le, own_block h.own (fun i hi => k i (h.ob i hi).1), h.ob⟩
theorem Wb.kept {w w' : World} {b : Nat} {v : Value} {F : Nat → Prop} (h : Wb w b v F) (k : ∀ k, F k → w'.heap[k]? = w.heap[k]?) (hs : w.heap.size ≤ w'.heap.size) : Wb w' b v F :=
  ⟨fun i hi => Nat.lt_of_lt_of_le (h.lt i hi) hs, h.fb, cell_blk (k b h.fb) h.c0, cell_blk (k b h.fb) h.c1⟩
theorem Wp.kept {w w' : World} {p : Value} {F : Nat → Prop} {s : Sta} (h : Wp w p F s) (k : ∀ k, F k → w'.heap[k]? = w.heap[k]?) (hs : w.heap.size ≤ w'.heap.size) : Wp w' p F s := by
  rcases h with h | ⟨b, v, e, ⟨e2, h⟩ | ⟨l, e2, h⟩⟩
  · exact Or.inl h
  · exact Or.inr ⟨b, v, e, Or.inl ⟨e2, h.kept k hs⟩⟩
  · exact Or.inr ⟨b, v, e, Or.inr ⟨l, e2, h.kept k hs⟩⟩
theorem Wp.lt {w : World} {p : Value} {F : Nat → Prop} {s : Sta} (h : Wp w p F s) : ∀ k, F k → k < w.heap.size := by
  rcases h with ⟨-, -, h⟩ | ⟨b, v, e, ⟨e2, h⟩ | ⟨l, e2, h⟩⟩
  · exact fun k hk => absurd hk (h k)
  · exact h.lt
  · exact h.lt
theorem Wp.later {w w' : World} {p : Value} {F : Nat → Prop} {s : Sta} (h : Wp w p F s) (hb : Below w.heap.size w w') : Wp w' p F s := h.kept (fun k hk => hb.block k (h.lt k hk)) hb.size
/-- One call behind another. -/
theorem Af.tr {T : World → Value → (Nat → Prop) → Sta → Prop} {p : Value} {F F1 : Nat → Prop} {s : Sta} {w w1 w2 : World} (hG : Gr F F1 w) (hK : Kp F w w1) (h2 : Af T p F1 s w1 w2) : Af T p F s w w2 := by
  obtain ⟨F2, t, g, k⟩ := h2
  have hs := hK.size
  refine ⟨F2, t, fun i hi => ?_, hK.trans k (fun i hi => hG i hi)⟩
  rcases g i hi with q | q
  · exact hG i q
  · exact Or.inr (by omega)
theorem Af.same {T : World → Value → (Nat → Prop) → Sta → Prop} {p : Value} {F : Nat → Prop} {s : Sta} {w : World} (h : T w p F s) : Af T p F s w w := ⟨F, h, fun _ h => Or.inl h, Kp.refl _ _⟩
theorem pt_pt (s : Sta) (a b : List Nat) : pt (pt s a) b = pt s (a ++ b) := by
  cases s with
  | error e => rfl
  | ok l =>
    by_cases h : l.length + a.length ≤ 1048576
    · rw [pt_ok h]
      by_cases h2 : l.length + (a ++ b).length ≤ 1048576
      · rw [pt_ok h2, pt_ok (by rw [List.length_append] at *; omega), List.append_assoc]
      · rw [pt_big (show 1048576 < l.length + (a ++ b).length by omega), pt_big (by rw [List.length_append] at *; omega)]
    · rw [pt_big (by omega), pt_big (by rw [List.length_append]; omega)]
      rfl
theorem pt_nil {w : World} {p : Value} {F : Nat → Prop} {s : Sta} (h : Wp w p F s) : pt s [] = s := by
  rcases h with ⟨-, rfl, -⟩ | ⟨b, v, e, ⟨rfl, h⟩ | ⟨l, rfl, h⟩⟩
  · rfl
  · rfl
  · rw [pt_ok (by have := h.le; simpa using this), List.append_nil]
set_option maxRecDepth 100000 in
set_option maxHeartbeats 1000000 in
theorem add_nil (x : Value) (w : World) : Calls Tryd.prog 39 #[.pointer none, x] w fun e w' => e = .returned (.tuple #[]) ∧ w' = w := by
  go_enter Tryd.func39, Tryd.ntmps39
  go_wp2
  first | go_end0 | refine bodyPost_ret (results_none rfl _ _ _) rfl ?_
  exact ⟨rfl, rfl⟩
set_option maxRecDepth 100000 in
set_option maxHeartbeats 1000000 in
theorem add_big (b : Nat) (v x : Value) (F : Nat → Prop) (w : World) (h : Wb w b v F) : Calls Tryd.prog 39 #[.pointer (some ⟨b, 0, none⟩), x] w fun e w' => e = .returned (.tuple #[]) ∧ w' = w := by
  have c1 := h.c1
  clear h
  go_enter Tryd.func39, Tryd.ntmps39
  go_wp2
  first | go_end0 | refine bodyPost_ret (results_none rfl _ _ _) rfl ?_
  exact ⟨rfl, rfl⟩
set_option maxRecDepth 100000 in
set_option maxHeartbeats 1000000 in
theorem add_full (b : Nat) (v x : Value) (F : Nat → Prop) (l m : List Nat) (w : World) (h : Wo w b v F l) (hx : Bs w x m) (hm : m.length ≤ 2000000) (hbig : 1048576 < l.length + m.length) :
    Calls Tryd.prog 39 #[.pointer (some ⟨b, 0, none⟩), x] w fun e w' => e = .returned (.tuple #[]) ∧ w' = (w.setCell ⟨b, 0, none⟩ (.slice none 0 0)).setCell ⟨b, 1, none⟩ (.bool true) := by
  have c0 := h.c0
  have c1 := h.c1
  have f0 := h.f0
  have f1 := h.f1
  obtain ⟨ad, cap, rfl⟩ := h.own.sl
  obtain ⟨adx, capx, rfl, k1, k2⟩ := hx.len
  have hle := h.le
  obtain ⟨n, hN⟩ : ∃ n, l.length = n := ⟨_, rfl⟩
  obtain ⟨q, hQ⟩ : ∃ q, m.length = q := ⟨_, rfl⟩
  rw [hN] at c0 hle hbig
  rw [hQ] at hm hbig ⊢
  have hsub : IntKind.i64.wrap (1048576 - (n : Int)) = 1048576 - (n : Int) := by rw [IntKind.wrap_i64]; omega
  have hlt : 1048576 - (n : Int) < (q : Int) := by omega
  clear h hx hN hQ k1 k2 hle hm hbig
  go_enter Tryd.func39, Tryd.ntmps39
  go_wp2
  first | go_end0 | refine bodyPost_ret (results_none rfl _ _ _) rfl ?_
  exact ⟨rfl, rfl⟩
set_option maxRecDepth 100000 in
set_option maxHeartbeats 1000000 in
theorem add_room (b : Nat) (v x : Value) (F : Nat → Prop) (l m : List Nat) (w : World) (h : Wo w b v F l) (hx : Bs w x m) (hm : m.length ≤ 2000000) (hnb : l.length + m.length ≤ 1048576) :
    Calls Tryd.prog 39 #[.pointer (some ⟨b, 0, none⟩), x] w fun e w' => e = .returned (.tuple #[]) ∧ ∃ v' F', Wo w' b v' F' (l ++ m) ∧ Gr F F' w ∧ Kp F w w' := by
  have c0 := h.c0
  have c1 := h.c1
  have f0 := h.f0
  have f1 := h.f1
  obtain ⟨ad, cap, rfl⟩ := h.own.sl
  obtain ⟨adx, capx, rfl, k1, k2⟩ := hx.len
  obtain ⟨n, hN⟩ : ∃ n, l.length = n := ⟨_, rfl⟩
  obtain ⟨q, hQ⟩ : ∃ q, m.length = q := ⟨_, rfl⟩
  have HW : Hid (Wo w b (.slice ad n cap) F l) := by rw [hN] at h; exact h
  have HX : Hid (Bs w (.slice adx q capx) m) := by rw [hQ] at hx; exact hx
  have HN : Hid (l.length = n) := hN
  have HQ : Hid (m.length = q) := hQ
  rw [hN] at c0 hnb
  rw [hQ] at hm hnb ⊢
  have hsub : IntKind.i64.wrap (1048576 - (n : Int)) = 1048576 - (n : Int) := by rw [IntKind.wrap_i64]; omega
  have hlt : ¬ 1048576 - (n : Int) < (q : Int) := by omega
  clear h hx hN hQ k1 k2
  go_enter Tryd.func39, Tryd.ntmps39
  go_upto_region 3 with fail
  obtain ⟨t, ht⟩ : ∃ t, (l ++ m).length = t := ⟨_, rfl⟩
  have HT : Hid ((l ++ m).length = t) := ht
  clear ht
  have hbs : some b ≠ Value.ownBlock (.slice ad n cap) := fun e => (HW.out.ob b e.symm).2 rfl
  have hbl := HW.out.lt b HW.out.fb
  go_wp2_with (at_builtin; refine apW rfl _ _ rfl _ l rfl HW.out.own _ m rfl HX.out (by have := HN.out; have := HQ.out; omega) ?_; intro v3 w3 hO3 hg3 hw3; obtain ⟨ad3, cap3, hv3⟩ := hO3.sl; rw [HT.out] at hv3; subst hv3; have HB3 : Hid (w3.heap[b]? = w.heap[b]?) := hg3.block b hbl hbs; have d0 := cell_blk (a := ⟨b, 0, none⟩) HB3.out c0; have e0 := frz_blk (a := ⟨b, 0, none⟩) HB3.out f0; have HO3 : Hid (Ob 0 w3 (.slice ad3 t cap3) (l ++ m)) := hO3; have HG3 : Hid (w.grownBy w3 (Value.ownBlock (.slice ad n cap))) := hg3; have HW3 : Hid (∀ k, Value.ownBlock (.slice ad3 t cap3) = some k → Value.ownBlock (.slice ad n cap) = some k ∨ w.heap.size ≤ k) := hw3; clear hO3 hg3 hw3 c0 f0)
  go_end0
  have hK : Kp F w w3 := ⟨HG3.out.os, HG3.out.tape, HG3.out.output, HG3.out.size, fun k hk hn => HG3.out.block k hk (fun e => hn (HW.out.ob k e.symm).1)⟩
  have hne : ∀ k, Value.ownBlock (.slice ad3 t cap3) = some k → k ≠ b := fun k hk => by
    rcases HW3.out k hk with q | q
    · exact (HW.out.ob k q).2
    · omega
  refine ⟨rfl, .slice ad3 t cap3, fun k => F k ∨ Value.ownBlock (.slice ad3 t cap3) = some k, ⟨?_, Or.inl HW.out.fb, ?_, ?_, ?_, ?_, ?_, ?_, fun k hk => ⟨Or.inr hk, hne k hk⟩⟩, ?_, hK.set (Or.inl HW.out.fb) _⟩
  · intro k hk
    rw [World.size_setCell]
    rcases hk with hk | hk
    · exact Nat.lt_of_lt_of_le (HW.out.lt k hk) HG3.out.size
    · exact (HO3.out.lt k hk).2
  · exact World.cell?_setCell_same' _ _ _ (by rw [d0]; rfl)
  · rw [World.cell?_setCell_other _ _ _ _ (by simp)]; exact cell_blk HB3.out HW.out.c1
  · rw [World.frozen?_setCell]; exact e0
  · rw [World.frozen?_setCell]; exact frz_blk HB3.out HW.out.f1
  · rw [List.length_append, HN.out, HQ.out]; exact hnb
  · exact own_block HO3.out (fun k hk => Below.heap_setCell _ _ _ _ (hne k hk))
  · intro k hk
    rcases hk with hk | hk
    · exact Or.inl hk
    · rcases HW3.out k hk with q | q
      · exact Or.inl (HW.out.ob k q).1
      · exact Or.inr q
theorem add_any (w : World) (p : Value) (F : Nat → Prop) (s : Sta) (x : Value) (m : List Nat) (h : Wp w p F s) (hx : Bs w x m) (hm : m.length ≤ 2000000) :
    Calls Tryd.prog 39 #[p, x] w fun e w' => e = .returned (.tuple #[]) ∧ Af Wp p F (pt s m) w w' := by
  rcases h with ⟨rfl, rfl, hF⟩ | ⟨b, v, rfl, ⟨rfl, h⟩ | ⟨l, rfl, h⟩⟩
  · exact (add_nil x w).mono fun e w' ⟨h1, h2⟩ => ⟨h1, by subst h2; exact Af.same (Or.inl ⟨rfl, rfl, hF⟩)⟩
  · exact (add_big b v x F w h).mono fun e w' ⟨h1, h2⟩ => ⟨h1, by subst h2; exact Af.same (Or.inr ⟨b, v, rfl, Or.inl ⟨rfl, h⟩⟩)⟩
  · by_cases q : l.length + m.length ≤ 1048576
    · refine (add_room b v x F l m w h hx hm q).mono fun e w' h => ?_
      obtain ⟨h1, v', F', h2, h3, h4⟩ := h
      refine ⟨h1, F', Or.inr ⟨b, v', rfl, Or.inr ⟨l ++ m, pt_ok q, h2⟩⟩, h3, h4⟩
    · refine (add_full b v x F l m w h hx hm (by omega)).mono fun e w' h9 => ?_
      obtain ⟨h1, rfl⟩ := h9
      refine ⟨h1, F, Or.inr ⟨b, .slice none 0 0, rfl, Or.inl ⟨pt_big (by omega), ⟨fun k hk => ?_, h.fb, ?_, ?_⟩⟩⟩, fun _ h => Or.inl h, ((Kp.refl F w).set (Or.inl h.fb) _).set (Or.inl h.fb) _⟩
      · rw [World.size_setCell, World.size_setCell]; exact h.lt k hk
      · rw [World.cell?_setCell_other _ _ _ _ (by simp)]; exact World.cell?_setCell_same' _ _ _ (by rw [h.c0]; rfl)
      · refine World.cell?_setCell_same' _ _ _ ?_
        rw [World.cell?_setCell_other _ _ _ _ (by simp), h.c1]; rfl
end Go.Proofs.YtfcbgkcclganmaaDoor
