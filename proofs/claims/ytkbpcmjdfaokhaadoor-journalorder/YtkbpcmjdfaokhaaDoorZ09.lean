/-
Layer 16's plain snap: slots, Load, Save; what is there behind a fall.
Layer 16's plain snap: the invariant between two lives, kept by a torn head; Save.
The document's sum (regattaref11): number, bits.
The document's sum (regattaref11): More.
The document's numbers in bytes, sums, and a slot's head (regattaref16).
The document's head of a slot (regattaref16).
-/
import Derived.Test.YtkbpcmjdfaokhaaDoorZ08
import Derived.Test.YtkbpcmjdfaokhaaDoorZ02
import Derived.Test.YtkbpcmjdfaokhaaDoorZ07

set_option linter.unusedVariables false
set_option linter.unusedSimpArgs false
namespace Go.Proofs.YtkbpcmjdfaokhaaDoor

/-- Where a slot begins. -/
def slA (at_ room which : Nat) : Nat := at_ + which * (room + 1)
/-- A head says that its slot may be whole. -/
def whl (h : List Nat) (which room : Nat) : Prop := gt h 0 8 = gt h 120 8 ∧ 1 ≤ gt h 0 8 ∧ gt h 0 8 ≤ 4611686018427387904 ∧ gt h 0 8 % 2 = which ∧ gt h 8 8 ≤ room * 128 ∧ gt h 20 4 = sm (h.take 20)
instance (h : List Nat) (which room : Nat) : Decidable (whl h which room) := by unfold whl; infer_instance
/-- The blocks behind a head, one behind the other. -/
def sdat (B : Nat → List Nat) (a room : Nat) : List Nat := (List.range room).flatMap fun i => B (a + 1 + i)
/-- A slot's text and number; 0: it isn't whole. -/
def slt (B : Nat → List Nat) (at_ room which : Nat) : List Nat × Nat :=
  if whl (B (slA at_ room which)) which room then
    (if sm ((sdat B (slA at_ room which) room).take (gt (B (slA at_ room which)) 8 8)) = gt (B (slA at_ room which)) 16 4 then ((sdat B (slA at_ room which) room).take (gt (B (slA at_ room which)) 8 8), gt (B (slA at_ room which)) 0 8) else ([], 0))
  else ([], 0)
/-- What is loaded: the text, its number, an error's number. -/
def ldV (B : Nat → List Nat) (at_ room : Nat) : List Nat × Nat × Nat :=
  if (slt B at_ room 0).2 = 0 ∧ (slt B at_ room 1).2 = 0 then ([], 0, 160) else if (slt B at_ room 1).2 < (slt B at_ room 0).2 then ((slt B at_ room 0).1, (slt B at_ room 0).2, 0) else ((slt B at_ room 1).1, (slt B at_ room 1).2, 0)
theorem slt_le {B : Nat → List Nat} {at_ room which : Nat} : (slt B at_ room which).2 ≤ gt (B (slA at_ room which)) 120 8 := by
  unfold slt
  split
  · rename_i h
    split
    · show gt _ 0 8 ≤ _
      rw [h.1]
      exact Nat.le_refl _
    · exact Nat.zero_le _
  · exact Nat.zero_le _
/-- The invariant between two lives: the number N, its text, and what the other slot's head may say. -/
structure Jv (at_ room N : Nat) (last : List Nat) (B : Nat → List Nat) : Prop where
  whole : 1 ≤ N → slt B at_ room (N % 2) = (last, N)
  zero : N = 0 → gt (B (slA at_ room 0)) 120 8 = 0
  oth : ∃ t M, (N + 1 = M + 2 ∨ (M = 0 ∧ N + 1 ≤ 2)) ∧ gt (B (slA at_ room ((N + 1) % 2))) 120 8 = mix t (N + 1) M
  ne : gt (B (slA at_ room ((N + 1) % 2))) 120 8 ≠ N + 1
theorem Jv.low {at_ room N : Nat} {last : List Nat} {B : Nat → List Nat} (h : Jv at_ room N last B) : gt (B (slA at_ room ((N + 1) % 2))) 120 8 ≤ N - 1 := by
  obtain ⟨t, M, h1, h2⟩ := h.oth
  have h3 := h.ne
  rw [h2] at h3 ⊢
  rcases mix_le t (N + 1) M (by omega) with q | q
  · exact absurd q h3
  · omega
/-- What is loaded then. -/
theorem Jv.load {at_ room N : Nat} {last : List Nat} {B : Nat → List Nat} (h : Jv at_ room N last B) : ldV B at_ room = if N = 0 then ([], 0, 160) else (last, N, 0) := by
  have hl := h.low
  unfold ldV
  by_cases hN : N = 0
  · subst hN
    have h0 := h.zero rfl
    have a0 := slt_le (B := B) (at_ := at_) (room := room) (which := 0)
    have a1 := slt_le (B := B) (at_ := at_) (room := room) (which := 1)
    have hl1 : gt (B (slA at_ room 1)) 120 8 ≤ 0 := hl
    rw [if_pos ⟨by omega, by omega⟩, if_pos rfl]
  · have hw := h.whole (by omega)
    rw [if_neg hN]
    have hp : N % 2 = 0 ∨ N % 2 = 1 := by omega
    rcases hp with hp | hp
    · have e1 : (N + 1) % 2 = 1 := by omega
      rw [hp] at hw
      rw [e1] at hl
      have a1 := slt_le (B := B) (at_ := at_) (room := room) (which := 1)
      rw [hw]
      rw [if_neg (by show ¬ (N = 0 ∧ _); omega), if_pos (by show _ < N; omega)]
    · have e1 : (N + 1) % 2 = 0 := by omega
      rw [hp] at hw
      rw [e1] at hl
      have a0 := slt_le (B := B) (at_ := at_) (room := room) (which := 0)
      rw [hw]
      rw [if_neg (by show ¬ (_ ∧ N = 0); omega), if_neg (by show ¬ N < _; omega)]
/-! A text in blocks. -/
def ck (d : List Nat) (i : Nat) : List Nat := (d.drop (i * 128)).take 128
theorem ck_len (d : List Nat) (i : Nat) : (ck d i).length ≤ 128 := by unfold ck; rw [List.length_take]; omega
theorem ck_byte {d : List Nat} (h : ∀ c ∈ d, c < 256) (i : Nat) : ∀ c ∈ ck d i, c < 256 := fun c hc => h c (List.mem_of_mem_drop (List.mem_of_mem_take hc))
/-- Blocks that hold a text give it back. -/
theorem sdat_text : ∀ (room : Nat) (d : List Nat) (B : Nat → List Nat) (a : Nat), d.length ≤ room * 128 → (∀ i, i < room → (B (a + 1 + i)).length = 128) → (∀ i, i < room → i * 128 < d.length → B (a + 1 + i) = full (ck d i)) → (sdat B a room).take d.length = d := by
  intro room
  induction room with
  | zero =>
    intro d B a h _ _
    have e : d = [] := List.eq_nil_of_length_eq_zero (by omega)
    subst e
    rfl
  | succ room ih =>
    intro d B a h hl hb
    have e1 : sdat B a (room + 1) = B (a + 1) ++ sdat (fun i => B (i + 1)) a room := by
      unfold sdat
      rw [List.range_succ_eq_map, List.flatMap_cons, Nat.add_zero, List.flatMap_map]
      congr 1
    rw [e1]
    by_cases hd : d.length ≤ 128
    · by_cases h0 : d.length = 0
      · have e : d = [] := List.eq_nil_of_length_eq_zero h0
        subst e
        rfl
      · have hb0 := hb 0 (by omega) (by omega)
        have hck : ck d 0 = d := by unfold ck; rw [Nat.zero_mul, List.drop_zero, List.take_of_length_le hd]
        rw [Nat.add_zero, hck] at hb0
        rw [hb0]
        unfold full
        rw [List.append_assoc, List.take_left]
    · have hb0 := hb 0 (by omega) (by omega)
      rw [Nat.add_zero] at hb0
      have hck : (ck d 0).length = 128 := by unfold ck; rw [List.length_take, List.length_drop]; omega
      have hf : full (ck d 0) = d.take 128 := by
        unfold full
        rw [hck, Nat.sub_self, List.replicate_zero, List.append_nil]
        unfold ck
        rw [Nat.zero_mul, List.drop_zero]
      have h2 := ih (d.drop 128) (fun i => B (i + 1)) a (by rw [List.length_drop]; rw [Nat.succ_mul] at h; omega) (fun i hi => hl (i + 1) (by omega)) (fun i hi hid => by
        rw [List.length_drop] at hid
        have h3 := hb (i + 1) (by omega) (by rw [Nat.succ_mul]; omega)
        have e2 : ck d (i + 1) = ck (d.drop 128) i := by
          unfold ck
          rw [List.drop_drop, show (i + 1) * 128 = 128 + i * 128 by rw [Nat.succ_mul]; omega]
        rw [← e2]
        exact h3)
      rw [hb0, hf]
      have l1 : (d.take 128).length = 128 := by rw [List.length_take]; omega
      rw [List.length_drop] at h2
      rw [List.take_append, l1, h2, List.take_of_length_le (by omega), List.take_append_drop]
/-- A head that was laid, at least up to its last number, over one that said less. -/
theorem slt_new {B : Nat → List Nat} {at_ room n k : Nat} {d : List Nat} {X : List Nat} (hn : 1 ≤ n) (hn2 : n ≤ 4611686018427387904) (hk : 120 ≤ k) (hk2 : k ≤ 128) (hX : okb X) (hd : d.length ≤ room * 128) (hr : room ≤ 16384)
    (hh : B (slA at_ room (n % 2)) = torn k (hdB n d) X) (hl : gt (B (slA at_ room (n % 2))) 120 8 = n) (hB : ∀ i, i < room → (B (slA at_ room (n % 2) + 1 + i)).length = 128) (ht : ∀ i, i < room → i * 128 < d.length → B (slA at_ room (n % 2) + 1 + i) = full (ck d i)) : slt B at_ room (n % 2) = (d, n) := by
  have hH := hdB_len n d
  have f : ∀ p l, p + l ≤ 24 → gt (B (slA at_ room (n % 2))) p l = gt (hdB n d) p l := fun p l hpl => by
    rw [hh]
    unfold gt
    rw [torn_low hH hk2 (by omega)]
  have e0 := f 0 8 (by omega)
  have e1 := f 8 8 (by omega)
  have e2 := f 16 4 (by omega)
  have e3 := f 20 4 (by omega)
  have e4 : (B (slA at_ room (n % 2))).take 20 = (hdB n d).take 20 := by
    rw [hh]
    have := torn_low (p := 0) (l := 20) (X := X) hH hk2 (by omega)
    rw [List.drop_zero, List.drop_zero] at this
    exact this
  have hd8 : d.length < 256 ^ 8 := by
    have : (256 : Nat) ^ 8 = 18446744073709551616 := by decide
    have := Nat.mul_le_mul_right 128 hr
    omega
  have hn8 : n < 256 ^ 8 := by
    have : (256 : Nat) ^ 8 = 18446744073709551616 := by decide
    omega
  rw [hdB_n d hn8] at e0
  rw [hdB_size n hd8] at e1
  rw [hdB_sum] at e2
  rw [hdB_hs, ← e4] at e3
  have hw : whl (B (slA at_ room (n % 2))) (n % 2) room := ⟨by rw [e0, hl], by omega, by omega, by rw [e0], by omega, e3⟩
  have hs := sdat_text room d B (slA at_ room (n % 2)) hd hB ht
  unfold slt
  rw [if_pos hw, e1, hs, e2, if_pos rfl, e0]
/-- What agrees where a slot is read has the same slot. -/
theorem slt_same {B B' : Nat → List Nat} {at_ room which : Nat} (h : ∀ i, i ≤ room → B' (slA at_ room which + i) = B (slA at_ room which + i)) : slt B' at_ room which = slt B at_ room which := by
  have e0 : B' (slA at_ room which) = B (slA at_ room which) := h 0 (by omega)
  have e1 : sdat B' (slA at_ room which) room = sdat B (slA at_ room which) room := by
    unfold sdat
    have : ∀ i ∈ List.range room, B' (slA at_ room which + 1 + i) = B (slA at_ room which + 1 + i) := fun i hi => by
      have hi2 := List.mem_range.1 hi
      have := h (1 + i) (by omega)
      rw [← Nat.add_assoc] at this
      exact this
    rw [List.flatMap_def, List.flatMap_def, List.map_congr_left this]
  unfold slt
  rw [e0, e1]
end Go.Proofs.YtkbpcmjdfaokhaaDoor
set_option linter.unusedVariables false
set_option linter.unusedSimpArgs false
namespace Go.Proofs.YtkbpcmjdfaokhaaDoor

theorem slt_num {B : Nat → List Nat} {at_ room which N : Nat} {l : List Nat} (h : slt B at_ room which = (l, N)) (hN : 1 ≤ N) : gt (B (slA at_ room which)) 120 8 = N := by
  unfold slt at h
  split at h
  · rename_i hw
    split at h
    · have h2 := congrArg Prod.snd h
      have h3 : gt (B (slA at_ room which)) 0 8 = N := h2
      rw [← hw.1, h3]
    · have h2 : (0 : Nat) = N := congrArg Prod.snd h
      omega
  · have h2 : (0 : Nat) = N := congrArg Prod.snd h
    omega
/-- The slot that is whole has its number last. -/
theorem Jv.num {at_ room N : Nat} {last : List Nat} {B : Nat → List Nat} (h : Jv at_ room N last B) : gt (B (slA at_ room (N % 2))) 120 8 = N := by
  by_cases q : N = 0
  · rw [q]; exact h.zero q
  · exact slt_num (h.whole (by omega)) (by omega)
theorem Jv.same {at_ room N : Nat} {last : List Nat} {B B' : Nat → List Nat} (h : Jv at_ room N last B) (h1 : ∀ i, i ≤ room → B' (slA at_ room (N % 2) + i) = B (slA at_ room (N % 2) + i)) (h2 : gt (B' (slA at_ room ((N + 1) % 2))) 120 8 = gt (B (slA at_ room ((N + 1) % 2))) 120 8) : Jv at_ room N last B' := by
  refine ⟨fun q => ?_, fun q => ?_, ?_, ?_⟩
  · rw [slt_same h1]; exact h.whole q
  · have e := h1 0 (by omega)
    have h0 := h.zero q
    subst q
    have e2 : B' (slA at_ room 0) = B (slA at_ room 0) := e
    rw [e2]; exact h0
  · rw [h2]; exact h.oth
  · rw [h2]; exact h.ne
/-- A head that was laid in part: the old text is there, or the new one. -/
theorem Jv.torn {at_ room N k : Nat} {last d : List Nat} {B B' : Nat → List Nat} (h : Jv at_ room N last B) (hN : N + 1 ≤ 4611686018427387904) (hk : k ≤ 128) (hd : d.length ≤ room * 128) (hr : room ≤ 16384)
    (hX : okb (B (slA at_ room ((N + 1) % 2)))) (h1 : ∀ i, i ≤ room → B' (slA at_ room (N % 2) + i) = B (slA at_ room (N % 2) + i)) (hh : B' (slA at_ room ((N + 1) % 2)) = Go.Proofs.YtkbpcmjdfaokhaaDoor.torn k (hdB (N + 1) d) (B (slA at_ room ((N + 1) % 2))))
    (hB : ∀ i, i < room → (B' (slA at_ room ((N + 1) % 2) + 1 + i)).length = 128) (ht : ∀ i, i < room → i * 128 < d.length → B' (slA at_ room ((N + 1) % 2) + 1 + i) = full (ck d i)) :
    (Jv at_ room N last B' ∧ k ≠ 128) ∨ Jv at_ room (N + 1) d B' := by
  have hn8 : N + 1 < 256 ^ 8 := by
    have : (256 : Nat) ^ 8 = 18446744073709551616 := by decide
    omega
  by_cases hk1 : k < 120
  · left
    refine ⟨h.same h1 ?_, by omega⟩
    rw [hh]
    unfold gt
    rw [torn_high (hdB_len _ _) (by omega) (by omega)]
  · obtain ⟨t, M, m1, m2⟩ := h.oth
    have hx := torn_last (k := k) (hdB_ok (N + 1) d) hX (by omega) hk
    rw [← hh, hdB_last d hn8, m2, mix_mix] at hx
    by_cases q : gt (B' (slA at_ room ((N + 1) % 2))) 120 8 = N + 1
    · right
      have hw := slt_new (n := N + 1) (by omega) hN (by omega) hk hX hd hr hh q hB ht
      have hnum := h.num
      have e0 := h1 0 (by omega)
      rw [Nat.add_zero] at e0
      rw [← e0] at hnum
      have e2 : (N + 1 + 1) % 2 = N % 2 := by omega
      refine ⟨fun _ => hw, fun z => by omega, ⟨0, N, Or.inl rfl, ?_⟩, ?_⟩
      · rw [e2, hnum, mix_zero]
      · rw [e2, hnum]; omega
    · left
      refine ⟨⟨fun z => ?_, fun z => ?_, ⟨max t (k - 120), M, m1, hx⟩, q⟩, fun z => ?_⟩
      · rw [slt_same h1]; exact h.whole z
      · have e := h1 0 (by omega)
        have h0 := h.zero z
        subst z
        have e2 : B' (slA at_ room 0) = B (slA at_ room 0) := e
        rw [e2]; exact h0
      · subst z
        apply q
        rw [hh]
        unfold gt
        rw [torn_low (hdB_len _ _) (by omega) (by omega)]
        exact hdB_last d hn8
/-! Save. -/
def bk (s : Dsk) (i : Nat) : List Nat := s.bl.getD i []
def rb (s : Dsk) (i : Nat) : List Nat := rdB s (i : Int)
theorem rb_bk {s : Dsk} {i : Nat} (hu : s.un = []) (hd : s.dn = false) (hi : i < s.bl.length) : rb s i = bk s i := by
  have ha : dAsk s (i : Int) = 0 := by unfold dAsk; rw [hd, if_neg (by simp), if_neg (by omega)]
  unfold rb rdB
  rw [if_neg (by omega), hu]
  rfl
def svW (a : Nat) (d : List Nat) : Nat → Nat → Dsk → Nat × Dsk
  | 0, _, s => (0, s)
  | k + 1, i, s => if wrE s ((a + 1 + i : Nat) : Int) (ck d i) ≠ 0 then (wrE s ((a + 1 + i : Nat) : Int) (ck d i), wrS s ((a + 1 + i : Nat) : Int) (ck d i)) else svW a d k (i + 1) (wrS s ((a + 1 + i : Nat) : Int) (ck d i))
/-- From the head on. -/
def svH (a n : Nat) (d : List Nat) (s : Dsk) : Nat × Nat × Dsk :=
  if wrE s (a : Int) (hdB n d) ≠ 0 then (0, wrE s (a : Int) (hdB n d), wrS s (a : Int) (hdB n d)) else
  if flE (wrS s (a : Int) (hdB n d)) ≠ 0 then (0, flE (wrS s (a : Int) (hdB n d)), flS (wrS s (a : Int) (hdB n d))) else (n, 0, flS (wrS s (a : Int) (hdB n d)))
/-- Behind the writes of the text. -/
def svF (a n : Nat) (d : List Nat) (w : Nat × Dsk) : Nat × Nat × Dsk :=
  if w.1 ≠ 0 then (0, w.1, w.2) else if flE w.2 ≠ 0 then (0, flE w.2, flS w.2) else svH a n d (flS w.2)
def svN (s : Dsk) (at_ room n : Nat) (d : List Nat) : Nat × Nat × Dsk :=
  if 4611686018427387904 < n then (0, 3, s) else svF (slA at_ room (n % 2)) n d (svW (slA at_ room (n % 2)) d ((d.length + 127) / 128) 0 s)
def svR (s : Dsk) (at_ room : Nat) (d : List Nat) : Nat × Nat × Dsk :=
  if room * 128 < d.length then (0, 161, s) else if s.dn = true then (0, 150, s) else svN s at_ room ((ldV (rb s) at_ room).2.1 + 1) d
/-- Under way: only the blocks of a text. -/
structure Und (bl : List (List Nat)) (a cnt : Nat) (s : Dsk) : Prop where
  bl : s.bl = bl
  un : ∀ u ∈ s.un, a + 1 ≤ u.1 ∧ u.1 < a + 1 + cnt
theorem lastU_app (un : List (Nat × List Nat)) (u : Nat × List Nat) (i : Nat) (d : List Nat) : lastU (un ++ [u]) i d = if u.1 = i then u.2 else lastU un i d := by
  unfold lastU
  rw [List.foldl_append]
  rfl
theorem dGo_gone {s : Dsk} (h : dGo s = true) : (dGone s).dn = s.dn := by
  unfold dGo at h
  unfold dGone
  split
  · rename_i q
    split
    · rename_i q2
      rw [q] at h
      simp [q2] at h
    · rfl
  · rfl
/-- A write in range on a disk that isn't down. -/
theorem wr_step {s : Dsk} {i : Nat} {b : List Nat} (hd : s.dn = false) (hi : i < s.bl.length) (hb : b.length ≤ 128) :
    (wrS s (i : Int) b).bl = s.bl ∧ (wrS s (i : Int) b).un = s.un ++ [(i, full b)] ∧ (wrE s (i : Int) b = 150 ∨ (wrE s (i : Int) b = 0 ∧ (wrS s (i : Int) b).dn = false)) := by
  have ha : dAsk s (i : Int) = 0 := by unfold dAsk; rw [hd, if_neg (by simp), if_neg (by omega)]
  have e : wrS s (i : Int) b = dGone { s with un := s.un ++ [(i, full b)] } := by
    unfold wrS
    rw [if_neg (by omega)]
    rfl
  obtain ⟨g1, g2⟩ := dGone_bl { s with un := s.un ++ [(i, full b)] }
  refine ⟨by rw [e]; exact g1, by rw [e]; exact g2, ?_⟩
  unfold wrE
  rw [if_neg (by omega), if_neg (by omega)]
  by_cases q : dGo s = true
  · right
    refine ⟨if_pos q, ?_⟩
    rw [e]
    have q2 : dGo { s with un := s.un ++ [(i, full b)] } = true := q
    rw [dGo_gone q2]
    exact hd
  · left; exact if_neg q
theorem fl_step {s : Dsk} (hd : s.dn = false) : (flE s = 150 ∧ (flS s).bl = s.bl ∧ (flS s).un = s.un) ∨ (flE s = 0 ∧ (flS s).bl = lay s.un s.bl ∧ (flS s).un = [] ∧ (flS s).dn = false) := by
  by_cases q : dGo s = true
  · right
    have e1 : flE s = 0 := by unfold flE; rw [hd, if_neg (by simp), if_pos q]
    have e2 : flS s = { dGone s with bl := lay s.un s.bl, un := [] } := by unfold flS; rw [if_neg (by rw [hd]; simp), if_pos q]
    rw [e1, e2]
    refine ⟨rfl, rfl, rfl, ?_⟩
    show (dGone s).dn = false
    rw [dGo_gone q]; exact hd
  · left
    have e1 : flE s = 150 := by unfold flE; rw [hd, if_neg (by simp), if_neg q]
    have e2 : flS s = dGone s := by unfold flS; rw [if_neg (by rw [hd]; simp), if_neg q]
    rw [e1, e2]
    exact ⟨rfl, (dGone_bl s).1, (dGone_bl s).2⟩
theorem svW_is (bl : List (List Nat)) (a cnt : Nat) (d : List Nat) (hl : a + 1 + cnt ≤ bl.length) : ∀ (k i : Nat) (s : Dsk), i + k = cnt → s.dn = false → Und bl a cnt s → (∀ j, j < i → lastU s.un (a + 1 + j) (bl.getD (a + 1 + j) []) = full (ck d j)) →
    Und bl a cnt (svW a d k i s).2 ∧ ((svW a d k i s).1 = 150 ∨ ((svW a d k i s).1 = 0 ∧ (svW a d k i s).2.dn = false ∧ ∀ j, j < cnt → lastU (svW a d k i s).2.un (a + 1 + j) (bl.getD (a + 1 + j) []) = full (ck d j))) := by
  intro k
  induction k with
  | zero =>
    intro i s hi hd hU hj
    have e : i = cnt := by omega
    subst e
    exact ⟨hU, Or.inr ⟨rfl, hd, hj⟩⟩
  | succ k ih =>
    intro i s hi hd hU hj
    obtain ⟨w1, w2, w3⟩ := wr_step (s := s) (i := a + 1 + i) (b := ck d i) hd (by rw [hU.bl]; omega) (ck_len d i)
    have hU2 : Und bl a cnt (wrS s ((a + 1 + i : Nat) : Int) (ck d i)) := ⟨by rw [w1]; exact hU.bl, fun u hu => by
      rw [w2] at hu
      rcases List.mem_append.1 hu with q | q
      · exact hU.un u q
      · obtain rfl : u = (a + 1 + i, full (ck d i)) := by simpa using q
        exact ⟨by show a + 1 ≤ a + 1 + i; omega, by show a + 1 + i < a + 1 + cnt; omega⟩⟩
    rcases w3 with w3 | ⟨w3, w4⟩
    · have e : svW a d (k + 1) i s = (150, wrS s ((a + 1 + i : Nat) : Int) (ck d i)) := by
        show (if wrE s ((a + 1 + i : Nat) : Int) (ck d i) ≠ 0 then _ else _) = _
        rw [if_pos (by omega), w3]
      rw [e]
      exact ⟨hU2, Or.inl rfl⟩
    · have e : svW a d (k + 1) i s = svW a d k (i + 1) (wrS s ((a + 1 + i : Nat) : Int) (ck d i)) := by
        show (if wrE s ((a + 1 + i : Nat) : Int) (ck d i) ≠ 0 then _ else _) = _
        rw [if_neg (by omega)]
      rw [e]
      refine ih (i + 1) _ (by omega) w4 hU2 (fun j hji => ?_)
      rw [w2, lastU_app]
      by_cases q : j = i
      · subst q; exact if_pos rfl
      · rw [if_neg (by show ¬ a + 1 + i = a + 1 + j; omega)]
        exact hj j (by omega)
end Go.Proofs.YtkbpcmjdfaokhaaDoor
set_option linter.unusedVariables false
set_option linter.unusedSimpArgs false
namespace Go.Proofs.YtkbpcmjdfaokhaaDoor
open Go.RowKit

end Go.Proofs.YtkbpcmjdfaokhaaDoor
set_option linter.unusedVariables false
set_option linter.unusedSimpArgs false
namespace Go.Proofs.YtkbpcmjdfaokhaaDoor
open Go.RowKit

theorem cB_eq (r b : Nat) (hb : b < 2) : cB r b = if r % 2 = b then r / 2 else (r / 2) ^^^ 3988292384 := by
  have h1 : (r ^^^ b) / 2 = r / 2 := by rw [Nat.xor_div_two, show b / 2 = 0 by omega, Nat.xor_zero]
  have h2 : (r ^^^ b) % 2 = (r + b) % 2 := xm2 r b
  unfold cB cZ
  rw [h1, h2]
  by_cases h : r % 2 = b
  · rw [if_neg (by omega), if_pos h]
  · rw [if_pos (by omega), if_neg h]; rfl
theorem xor_ones32 (b : Nat) (hb : b < 4294967296) : 4294967295 ^^^ b = 4294967295 - b := by
  have h : ∀ (k : Nat) (b : Nat), b < 2 ^ k → (2 ^ k - 1) ^^^ b = 2 ^ k - 1 - b := by
    intro k
    induction k with
    | zero => intro b hb; obtain rfl : b = 0 := by simpa using hb
              rfl
    | succ k ih =>
      intro b hb
      have hp : 0 < 2 ^ k := Nat.two_pow_pos k
      rw [Nat.pow_succ] at hb ⊢
      have h1 := ih (b / 2) (by omega)
      have d : ((2 ^ k * 2 - 1) ^^^ b) / 2 = (2 ^ k - 1) ^^^ (b / 2) := by rw [Nat.xor_div_two]; congr 1; omega
      have m : ((2 ^ k * 2 - 1) ^^^ b) % 2 = (2 ^ k * 2 - 1 + b) % 2 := xm2 _ _
      rw [h1] at d
      omega
  exact h 32 b hb
theorem not32 (s : Nat) (hs : s < 4294967296) : bits .xor .u32 IntKind.u32.max (s : Int) = ((4294967295 - s : Nat) : Int) := by
  rw [show IntKind.u32.max = ((4294967295 : Nat) : Int) from rfl, xor32 _ _ (by omega) hs, xor_ones32 s hs]
end Go.Proofs.YtkbpcmjdfaokhaaDoor
set_option linter.unusedVariables false
set_option linter.unusedSimpArgs false
namespace Go.Proofs.YtkbpcmjdfaokhaaDoor
open Go.RowKit

theorem enN_take16 (n : Nat) : ∀ (k i : Nat), i < k → (enN n k).take (i + 1) = (enN n k).take i ++ [n / 256 ^ i % 256] := by
  intro k
  induction k generalizing n with
  | zero => intro i hi; omega
  | succ k ih =>
    intro i hi
    cases i with
    | zero => simp [enN]
    | succ i =>
      show (n % 256 :: enN (n / 256) k).take (i + 1 + 1) = (n % 256 :: enN (n / 256) k).take (i + 1) ++ _
      rw [List.take_succ_cons, List.take_succ_cons, ih (n / 256) i (by omega), List.cons_append, Nat.div_div_eq_div_mul, Nat.pow_succ, Nat.mul_comm (256 ^ i) 256]
set_option maxRecDepth 100000 in
set_option maxHeartbeats 2000000 in
theorem refPut (n k : Nat) (hn : n < 18446744073709551616) (hk : k ≤ 8) (w : World) :
    Calls Tryd.prog 62 #[.int .u64 (n : Int), .int .i64 (k : Int)] w fun e w' => ∃ v, e = .returned v ∧ Ob w.heap.size w' v (enN n k) ∧ Below w.heap.size w w' := by
  go_enter Tryd.func62, Tryd.ntmps62
  go_upto_region 3 with fail
  go_loopw [0, 5, 6] (fun s0 s5 s6 wr => ∃ j : Nat, j ≤ k ∧ s6 = .int .i64 (j : Int) ∧ s0 = .int .u64 ((n / 256 ^ j : Nat) : Int) ∧ Hid (Ob w.heap.size wr s5 ((enN n k).take j) ∧ Below w.heap.size w wr)) (fun _ _ s6 _ => k - (intOf s6).toNat)
  case atStart => exact ⟨0, by omega, rfl, by simp, by rw [List.take_zero]; exact ob_nil _ _, Below.refl _ _⟩
  case round =>
    obtain ⟨j, hj, rfl, rfl, HO⟩ := hrel
    obtain ⟨a5, c5, rfl⟩ := HO.out.1.sl
    by_cases hlt : j < k
    · have hjI : (j : Int) < (k : Int) := by omega
      have HE : Hid ((enN n k).take (j + 1) = (enN n k).take j ++ [n / 256 ^ j % 256] ∧ ((enN n k).take j).length ≤ 8) := ⟨enN_take16 n k j hlt, by rw [List.length_take, enN_len]; omega⟩
      have hd : n / 256 ^ (j + 1) = n / 256 ^ j / 256 := by rw [Nat.pow_succ, Nat.div_div_eq_div_mul]
      have hlt2 : n / 256 ^ j ≤ n := Nat.div_le_self _ _
      have HN : Hid (n / 256 ^ (j + 1) = n / 256 ^ j / 256) := hd
      clear hd
      generalize n / 256 ^ j = q at *
      obtain ⟨r, hr⟩ : ∃ r, q % 256 = r := ⟨_, rfl⟩
      obtain ⟨q2, hq2⟩ : ∃ q2, q / 256 = q2 := ⟨_, rfl⟩
      rw [hr] at HE
      rw [hq2] at HN
      have r1 : (q : Int).tmod 256 = (r : Int) := by rw [Int.tmod_eq_emod_of_nonneg (by omega)]; omega
      have r2 : (q : Int).tdiv 256 = (q2 : Int) := by rw [Int.tdiv_eq_ediv_of_nonneg (by omega)]; omega
      have w1 : IntKind.u64.wrap (r : Int) = (r : Int) := by rw [IntKind.wrap_u64]; omega
      have w2 : IntKind.u64.wrap (q2 : Int) = (q2 : Int) := by rw [IntKind.wrap_u64]; omega
      have w3 : IntKind.u8.wrap (r : Int) = (r : Int) := by rw [IntKind.wrap_u8]; omega
      have HL : Hid (Bs (wr.alloc (.cells #[.int .u8 (r : Int)] 5)) (.slice (some ⟨wr.heap.size, 0, none⟩) 1 1) [r]) := bs_one wr r _
      generalize hl : ((enN n k).take j).length = l at *
      have HLl : Hid (((enN n k).take j).length = l) := hl
      clear hr hq2 hl
      go_wp2_with (at_builtin; refine apB rfl _ _ rfl w.heap.size _ ((enN n k).take j) rfl (HO.out.1.later (bel1 _ _)) _ [r] rfl HL.out (by have := HE.out.2; have := HLl.out; simp at *; omega) (by rw [World.size_alloc]; have := HO.out.2.size; omega) ?_; intro v2 w2 hO2 hg2; have HO2 : Hid (Ob w.heap.size w2 v2 ((enN n k).take (j + 1)) ∧ Below w.heap.size w w2) := ⟨by rw [HE.out.1]; exact hO2, hg2.1 _ (HO.out.2.alloc HO.out.2.size _)⟩; clear hO2 hg2)
      go_roundw
      case rel => exact ⟨j + 1, by omega, by go_num, by rw [HN.out], HO2⟩
      case measure => simp [intOf]; omega
    · obtain rfl : j = k := by omega
      have hjI : ¬ (j : Int) < (j : Int) := by omega
      have HF : Hid (Ob w.heap.size wr (.slice a5 ((enN n j).take j).length c5) (enN n j)) := by
        have := HO.out.1
        rw [List.take_of_length_le (by rw [enN_len]; omega)] at this ⊢
        exact this
      generalize ((enN n j).take j).length = l at *
      go_wp2
      go_ret
      exact ⟨_, rfl, HF.out, HO.out.2⟩
/-- A number of at most eight bytes, read from behind. -/
theorem deN_drop (l : List Nat) (i : Nat) (hi : i < l.length) : deN (l.drop i) = l.getD i 0 + 256 * deN (l.drop (i + 1)) := by
  rw [drop_cons hi]
  rfl
set_option maxRecDepth 100000 in
set_option maxHeartbeats 2000000 in
theorem refGet (v : Value) (l : List Nat) (hb : ∀ c ∈ l, c < 256) (hl : l.length ≤ 8) (w : World) (h : Bs w v l) :
    Calls Tryd.prog 64 #[v] w fun e w' => e = .returned (.int .u64 ((deN l : Nat) : Int)) ∧ w' = w := by
  have HL : Hid (Bs w v l ∧ ∀ c ∈ l, c < 256) := ⟨h, hb⟩
  obtain ⟨ad, cap, rfl, k1, k2⟩ := h.len
  obtain ⟨n, hn⟩ : ∃ n, l.length = n := ⟨_, rfl⟩
  have HN : Hid (l.length = n) := hn
  rw [hn] at HL hl k1 ⊢
  clear h hb hn
  have hw0 : IntKind.i64.wrap ((n : Int) - 1) = (n : Int) - 1 := by rw [IntKind.wrap_i64]; omega
  go_enter Tryd.func64, Tryd.ntmps64
  go_upto_region 3 with fail
  go_loopw [3, 4] (fun s3 s4 wr => ∃ j : Nat, j ≤ n ∧ s4 = .int .i64 ((j : Int) - 1) ∧ s3 = .int .u64 ((deN (l.drop j) : Nat) : Int) ∧ wr = w) (fun _ s4 _ => (intOf s4 + 1).toNat)
  case atStart => exact ⟨n, by omega, rfl, by rw [List.drop_of_length_le (by have := HN.out; omega)]; rfl, rfl⟩
  case round =>
    obtain ⟨j, hj, rfl, rfl, hwr⟩ := hrel
    have hwr := hwr.symm
    subst hwr
    cases j with
    | zero =>
      have hjI : ¬ (0 : Int) ≤ ((0 : Nat) : Int) - 1 := by omega
      rw [List.drop_zero]
      go_wp2
      go_ret
      exact ⟨rfl, by trivial⟩
    | succ j =>
      have hjI : (0 : Int) ≤ (j : Int) := by omega
      have hjn : (j : Int) < (n : Int) := by omega
      have hN := HN.out
      obtain ⟨b, o, rfl, ca⟩ := HL.out.1.cel j (by omega)
      have HD : Hid (deN (l.drop j) = l.getD j 0 + 256 * deN (l.drop (j + 1))) := deN_drop l j (by omega)
      have hlt : deN (l.drop j) < 256 ^ 8 := by
        have h1 := deN_lt (l.drop j) (fun c hc => HL.out.2 c (List.mem_of_mem_drop hc))
        have h2 : (256 : Nat) ^ (l.drop j).length ≤ 256 ^ 8 := Nat.pow_le_pow_right (by omega) (by rw [List.length_drop]; omega)
        omega
      have hx : l.getD j 0 < 256 := getD_byte HL.out.2 j
      have hdd := HD.out
      obtain ⟨z, hz⟩ : ∃ z, deN (l.drop j) = z := ⟨_, rfl⟩
      have HZ : Hid (deN (l.drop j) = z) := hz
      rw [hz] at hlt hdd
      clear hz hN HD
      have he : ((j + 1 : Nat) : Int) - 1 = (j : Int) := by omega
      rw [he]
      generalize l.getD j 0 = x at *
      generalize deN (l.drop (j + 1)) = y at *
      obtain ⟨y2, hy2⟩ : ∃ y2, 256 * y = y2 := ⟨_, rfl⟩
      have m1 : (256 : Int) * (y : Int) = (y2 : Int) := by omega
      have m2 : (y : Int) * (256 : Int) = (y2 : Int) := by omega
      have p8 : (256 : Nat) ^ 8 = 18446744073709551616 := by decide
      have w1 : IntKind.u64.wrap (y2 : Int) = (y2 : Int) := by rw [IntKind.wrap_u64]; omega
      have w2 : IntKind.u64.wrap (x : Int) = (x : Int) := by rw [IntKind.wrap_u64]; omega
      have s1 : (y2 : Int) + (x : Int) = (z : Int) := by omega
      have w3 : IntKind.u64.wrap (z : Int) = (z : Int) := by rw [IntKind.wrap_u64]; omega
      have w4 : IntKind.i64.wrap ((j : Int) - 1) = (j : Int) - 1 := by rw [IntKind.wrap_i64]; omega
      clear hy2 hdd he
      go_wp2
      go_roundw
      case rel => exact ⟨j, by omega, rfl, by rw [HZ.out], by trivial⟩
      case measure => simp [intOf]
end Go.Proofs.YtkbpcmjdfaokhaaDoor
set_option linter.unusedVariables false
set_option linter.unusedSimpArgs false
namespace Go.Proofs.YtkbpcmjdfaokhaaDoor
open Go.RowKit

end Go.Proofs.YtkbpcmjdfaokhaaDoor
