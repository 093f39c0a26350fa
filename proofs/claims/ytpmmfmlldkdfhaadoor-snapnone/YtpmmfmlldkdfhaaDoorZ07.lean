/-
Layer 16's plain snap: slots, Load, Save; what is there behind a fall.
Layer 16's plain snap: the invariant between two lives, kept by a torn head; Save.
The document's sum (regattaref11): number, bits.
The document's sum (regattaref11): More.
-/
import Derived.Test.YtpmmfmlldkdfhaaDoorZ06
import Derived.Test.YtpmmfmlldkdfhaaDoorZ01

set_option linter.unusedVariables false
set_option linter.unusedSimpArgs false
namespace Go.Proofs.YtpmmfmlldkdfhaaDoor

/-- Where a slot begins. -/
def slA (at_ room which : Nat) : Nat := at_ + which * (room + 1)
/-- A head says that its slot may be whole. -/
def whl (h : List Nat) (which room : Nat) : Prop := gt h 0 8 = gt h 120 8 ∧ 1 ≤ gt h 0 8 ∧ gt h 0 8 ≤ 4611686018427387904 ∧ gt h 0 8 % 2 = which ∧ gt h 8 8 ≤ room * 128 ∧ gt h 20 4 = sm (h.take 20)
instance (h : List Nat) (which room : Nat) : Decidable (whl h which room) := by unfold whl; infer_instance
/-- The blocks behind a head, one behind the other. -/
def sdat (B : Nat → List Nat) (a room : Nat) : List Nat := (List.range room).flatMap fun i => B (a + 1 + i)
/-- A slot's text and number; 0: it isn't whole. -/
def slt (B : Nat → List Nat) (at_ room which : Nat) : List Nat × Nat :=
  if whl (B (slA at_ room which)) which room then
    (if sm ((sdat B (slA at_ room which) room).take (gt (B (slA at_ room which)) 8 8)) = gt (B (slA at_ room which)) 16 4 then ((sdat B (slA at_ room which) room).take (gt (B (slA at_ room which)) 8 8), gt (B (slA at_ room which)) 0 8) else ([], 0))
  else ([], 0)
/-- What is loaded: the text, its number, an error's number. -/
def ldV (B : Nat → List Nat) (at_ room : Nat) : List Nat × Nat × Nat :=
  if (slt B at_ room 0).2 = 0 ∧ (slt B at_ room 1).2 = 0 then ([], 0, 160) else if (slt B at_ room 1).2 < (slt B at_ room 0).2 then ((slt B at_ room 0).1, (slt B at_ room 0).2, 0) else ((slt B at_ room 1).1, (slt B at_ room 1).2, 0)
theorem slt_le {B : Nat → List Nat} {at_ room which : Nat} : (slt B at_ room which).2 ≤ gt (B (slA at_ room which)) 120 8 := by
  unfold slt
  split
  · rename_i h
    split
    · show gt _ 0 8 ≤ _
      rw [h.1]
      exact Nat.le_refl _
    · exact Nat.zero_le _
  · exact Nat.zero_le _
/-- The invariant between two lives: the number N, its text, and what the other slot's head may say. -/
structure Jv (at_ room N : Nat) (last : List Nat) (B : Nat → List Nat) : Prop where
  whole : 1 ≤ N → slt B at_ room (N % 2) = (last, N)
  zero : N = 0 → gt (B (slA at_ room 0)) 120 8 = 0
  oth : ∃ t M, (N + 1 = M + 2 ∨ (M = 0 ∧ N + 1 ≤ 2)) ∧ gt (B (slA at_ room ((N + 1) % 2))) 120 8 = mix t (N + 1) M
  ne : gt (B (slA at_ room ((N + 1) % 2))) 120 8 ≠ N + 1
theorem Jv.low {at_ room N : Nat} {last : List Nat} {B : Nat → List Nat} (h : Jv at_ room N last B) : gt (B (slA at_ room ((N + 1) % 2))) 120 8 ≤ N - 1 := by
  obtain ⟨t, M, h1, h2⟩ := h.oth
  have h3 := h.ne
  rw [h2] at h3 ⊢
  rcases mix_le t (N + 1) M (by omega) with q | q
  · exact absurd q h3
  · omega
/-- What is loaded then. -/
theorem Jv.load {at_ room N : Nat} {last : List Nat} {B : Nat → List Nat} (h : Jv at_ room N last B) : ldV B at_ room = if N = 0 then ([], 0, 160) else (last, N, 0) := by
  have hl := h.low
  unfold ldV
  by_cases hN : N = 0
  · subst hN
    have h0 := h.zero rfl
    have a0 := slt_le (B := B) (at_ := at_) (room := room) (which := 0)
    have a1 := slt_le (B := B) (at_ := at_) (room := room) (which := 1)
    have hl1 : gt (B (slA at_ room 1)) 120 8 ≤ 0 := hl
    rw [if_pos ⟨by omega, by omega⟩, if_pos rfl]
  · have hw := h.whole (by omega)
    rw [if_neg hN]
    have hp : N % 2 = 0 ∨ N % 2 = 1 := by omega
    rcases hp with hp | hp
    · have e1 : (N + 1) % 2 = 1 := by omega
      rw [hp] at hw
      rw [e1] at hl
      have a1 := slt_le (B := B) (at_ := at_) (room := room) (which := 1)
      rw [hw]
      rw [if_neg (by show ¬ (N = 0 ∧ _); omega), if_pos (by show _ < N; omega)]
    · have e1 : (N + 1) % 2 = 0 := by omega
      rw [hp] at hw
      rw [e1] at hl
      have a0 := slt_le (B := B) (at_ := at_) (room := room) (which := 0)
      rw [hw]
      rw [if_neg (by show ¬ (_ ∧ N = 0); omega), if_neg (by show ¬ N < _; omega)]
/-! A text in blocks. -/
def ck (d : List Nat) (i : Nat) : List Nat := (d.drop (i * 128)).take 128
theorem ck_len (d : List Nat) (i : Nat) : (ck d i).length ≤ 128 := by unfold ck; rw [List.length_take]; omega
theorem ck_byte {d : List Nat} (h : ∀ c ∈ d, c < 256) (i : Nat) : ∀ c ∈ ck d i, c < 256 := fun c hc => h c (List.mem_of_mem_drop (List.mem_of_mem_take hc))
/-- Blocks that hold a text give it back. -/
theorem sdat_text : ∀ (room : Nat) (d : List Nat) (B : Nat → List Nat) (a : Nat), d.length ≤ room * 128 → (∀ i, i < room → (B (a + 1 + i)).length = 128) → (∀ i, i < room → i * 128 < d.length → B (a + 1 + i) = full (ck d i)) → (sdat B a room).take d.length = d := by
  intro room
  induction room with
  | zero =>
    intro d B a h _ _
    have e : d = [] := List.eq_nil_of_length_eq_zero (by omega)
    subst e
    rfl
  | succ room ih =>
    intro d B a h hl hb
    have e1 : sdat B a (room + 1) = B (a + 1) ++ sdat (fun i => B (i + 1)) a room := by
      unfold sdat
      rw [List.range_succ_eq_map, List.flatMap_cons, Nat.add_zero, List.flatMap_map]
      congr 1
    rw [e1]
    by_cases hd : d.length ≤ 128
    · by_cases h0 : d.length = 0
      · have e : d = [] := List.eq_nil_of_length_eq_zero h0
        subst e
        rfl
      · have hb0 := hb 0 (by omega) (by omega)
        have hck : ck d 0 = d := by unfold ck; rw [Nat.zero_mul, List.drop_zero, List.take_of_length_le hd]
        rw [Nat.add_zero, hck] at hb0
        rw [hb0]
        unfold full
        rw [List.append_assoc, List.take_left]
    · have hb0 := hb 0 (by omega) (by omega)
      rw [Nat.add_zero] at hb0
      have hck : (ck d 0).length = 128 := by unfold ck; rw [List.length_take, List.length_drop]; omega
      have hf : full (ck d 0) = d.take 128 := by
        unfold full
        rw [hck, Nat.sub_self, List.replicate_zero, List.append_nil]
        unfold ck
        rw [Nat.zero_mul, List.drop_zero]
      have h2 := ih (d.drop 128) (fun i => B (i + 1)) a (by rw [List.length_drop]; rw [Nat.succ_mul] at h; omega) (fun i hi => hl (i + 1) (by omega)) (fun i hi hid => by
        rw [List.length_drop] at hid
        have h3 := hb (i + 1) (by omega) (by rw [Nat.succ_mul]; omega)
        have e2 : ck d (i + 1) = ck (d.drop 128) i := by
          unfold ck
          rw [List.drop_drop, show (i + 1) * 128 = 128 + i * 128 by rw [Nat.succ_mul]; omega]
        rw [← e2]
        exact h3)
      rw [hb0, hf]
      have l1 : (d.take 128).length = 128 := by rw [List.length_take]; omega
      rw [List.length_drop] at h2
      rw [List.take_append, l1, h2, List.take_of_length_le (by omega), List.take_append_drop]
/-- A head that was laid, at least up to its last number, over one that said less. -/
theorem slt_new {B : Nat → List Nat} {at_ room n k : Nat} {d : List Nat} {X : List Nat} (hn : 1 ≤ n) (hn2 : n ≤ 4611686018427387904) (hk : 120 ≤ k) (hk2 : k ≤ 128) (hX : okb X) (hd : d.length ≤ room * 128) (hr : room ≤ 16384)
    (hh : B (slA at_ room (n % 2)) = torn k (hdB n d) X) (hl : gt (B (slA at_ room (n % 2))) 120 8 = n) (hB : ∀ i, i < room → (B (slA at_ room (n % 2) + 1 + i)).length = 128) (ht : ∀ i, i < room → i * 128 < d.length → B (slA at_ room (n % 2) + 1 + i) = full (ck d i)) : slt B at_ room (n % 2) = (d, n) := by
  have hH := hdB_len n d
  have f : ∀ p l, p + l ≤ 24 → gt (B (slA at_ room (n % 2))) p l = gt (hdB n d) p l := fun p l hpl => by
    rw [hh]
    unfold gt
    rw [torn_low hH hk2 (by omega)]
  have e0 := f 0 8 (by omega)
  have e1 := f 8 8 (by omega)
  have e2 := f 16 4 (by omega)
  have e3 := f 20 4 (by omega)
  have e4 : (B (slA at_ room (n % 2))).take 20 = (hdB n d).take 20 := by
    rw [hh]
    have := torn_low (p := 0) (l := 20) (X := X) hH hk2 (by omega)
    rw [List.drop_zero, List.drop_zero] at this
    exact this
  have hd8 : d.length < 256 ^ 8 := by
    have : (256 : Nat) ^ 8 = 18446744073709551616 := by decide
    have := Nat.mul_le_mul_right 128 hr
    omega
  have hn8 : n < 256 ^ 8 := by
    have : (256 : Nat) ^ 8 = 18446744073709551616 := by decide
    omega
  rw [hdB_n d hn8] at e0
  rw [hdB_size n hd8] at e1
  rw [hdB_sum] at e2
  rw [hdB_hs, ← e4] at e3
  have hw : whl (B (slA at_ room (n % 2))) (n % 2) room := ⟨by rw [e0, hl], by omega, by omega, by rw [e0], by omega, e3⟩
  have hs := sdat_text room d B (slA at_ room (n % 2)) hd hB ht
  unfold slt
  rw [if_pos hw, e1, hs, e2, if_pos rfl, e0]
/-- What agrees where a slot is read has the same slot. -/
theorem slt_same {B B' : Nat → List Nat} {at_ room which : Nat} (h : ∀ i, i ≤ room → B' (slA at_ room which + i) = B (slA at_ room which + i)) : slt B' at_ room which = slt B at_ room which := by
  have e0 : B' (slA at_ room which) = B (slA at_ room which) := h 0 (by omega)
  have e1 : sdat B' (slA at_ room which) room = sdat B (slA at_ room which) room := by
    unfold sdat
    have : ∀ i ∈ List.range room, B' (slA at_ room which + 1 + i) = B (slA at_ room which + 1 + i) := fun i hi => by
      have hi2 := List.mem_range.1 hi
      have := h (1 + i) (by omega)
      rw [← Nat.add_assoc] at this
      exact this
    rw [List.flatMap_def, List.flatMap_def, List.map_congr_left this]
  unfold slt
  rw [e0, e1]
end Go.Proofs.YtpmmfmlldkdfhaaDoor
set_option linter.unusedVariables false
set_option linter.unusedSimpArgs false
namespace Go.Proofs.YtpmmfmlldkdfhaaDoor

theorem slt_num {B : Nat → List Nat} {at_ room which N : Nat} {l : List Nat} (h : slt B at_ room which = (l, N)) (hN : 1 ≤ N) : gt (B (slA at_ room which)) 120 8 = N := by
  unfold slt at h
  split at h
  · rename_i hw
    split at h
    · have h2 := congrArg Prod.snd h
      have h3 : gt (B (slA at_ room which)) 0 8 = N := h2
      rw [← hw.1, h3]
    · have h2 : (0 : Nat) = N := congrArg Prod.snd h
      omega
  · have h2 : (0 : Nat) = N := congrArg Prod.snd h
    omega
/-- The slot that is whole has its number last. -/
theorem Jv.num {at_ room N : Nat} {last : List Nat} {B : Nat → List Nat} (h : Jv at_ room N last B) : gt (B (slA at_ room (N % 2))) 120 8 = N := by
  by_cases q : N = 0
  · rw [q]; exact h.zero q
  · exact slt_num (h.whole (by omega)) (by omega)
theorem Jv.same {at_ room N : Nat} {last : List Nat} {B B' : Nat → List Nat} (h : Jv at_ room N last B) (h1 : ∀ i, i ≤ room → B' (slA at_ room (N % 2) + i) = B (slA at_ room (N % 2) + i)) (h2 : gt (B' (slA at_ room ((N + 1) % 2))) 120 8 = gt (B (slA at_ room ((N + 1) % 2))) 120 8) : Jv at_ room N last B' := by
  refine ⟨fun q => ?_, fun q => ?_, ?_, ?_⟩
  · rw [slt_same h1]; exact h.whole q
  · have e := h1 0 (by omega)
    have h0 := h.zero q
    subst q
    have e2 : B' (slA at_ room 0) = B (slA at_ room 0) := e
    rw [e2]; exact h0
  · rw [h2]; exact h.oth
  · rw [h2]; exact h.ne
/-- A head that was laid in part: the old text is there, or the new one. -/
theorem Jv.torn {at_ room N k : Nat} {last d : List Nat} {B B' : Nat → List Nat} (h : Jv at_ room N last B) (hN : N + 1 ≤ 4611686018427387904) (hk : k ≤ 128) (hd : d.length ≤ room * 128) (hr : room ≤ 16384)
    (hX : okb (B (slA at_ room ((N + 1) % 2)))) (h1 : ∀ i, i ≤ room → B' (slA at_ room (N % 2) + i) = B (slA at_ room (N % 2) + i)) (hh : B' (slA at_ room ((N + 1) % 2)) = Go.Proofs.YtpmmfmlldkdfhaaDoor.torn k (hdB (N + 1) d) (B (slA at_ room ((N + 1) % 2))))
    (hB : ∀ i, i < room → (B' (slA at_ room ((N + 1) % 2) + 1 + i)).length = 128) (ht : ∀ i, i < room → i * 128 < d.length → B' (slA at_ room ((N + 1) % 2) + 1 + i) = full (ck d i)) :
    (Jv at_ room N last B' ∧ k ≠ 128) ∨ Jv at_ room (N + 1) d B' := by
  have hn8 : N + 1 < 256 ^ 8 := by
    have : (256 : Nat) ^ 8 = 18446744073709551616 := by decide
    omega
  by_cases hk1 : k < 120
  · left
    refine ⟨h.same h1 ?_, by omega⟩
    rw [hh]
    unfold gt
    rw [torn_high (hdB_len _ _) (by omega) (by omega)]
  · obtain ⟨t, M, m1, m2⟩ := h.oth
    have hx := torn_last (k := k) (hdB_ok (N + 1) d) hX (by omega) hk
    rw [← hh, hdB_last d hn8, m2, mix_mix] at hx
    by_cases q : gt (B' (slA at_ room ((N + 1) % 2))) 120 8 = N + 1
    · right
      have hw := slt_new (n := N + 1) (by omega) hN (by omega) hk hX hd hr hh q hB ht
      have hnum := h.num
      have e0 := h1 0 (by omega)
      rw [Nat.add_zero] at e0
      rw [← e0] at hnum
      have e2 : (N + 1 + 1) % 2 = N % 2 := by omega
      refine ⟨fun _ => hw, fun z => by omega, ⟨0, N, Or.inl rfl, ?_⟩, ?_⟩
      · rw [e2, hnum, mix_zero]
      · rw [e2, hnum]; omega
    · left
      refine ⟨⟨fun z => ?_, fun z => ?_, ⟨max t (k - 120), M, m1, hx⟩, q⟩, fun z => ?_⟩
      · rw [slt_same h1]; exact h.whole z
      · have e := h1 0 (by omega)
        have h0 := h.zero z
        subst z
        have e2 : B' (slA at_ room 0) = B (slA at_ room 0) := e
        rw [e2]; exact h0
      · subst z
        apply q
        rw [hh]
        unfold gt
        rw [torn_low (hdB_len _ _) (by omega) (by omega)]
        exact hdB_last d hn8
/-! Save. -/
def bk (s : Dsk) (i : Nat) : List Nat := s.bl.getD i []
def rb (s : Dsk) (i : Nat) : List Nat := rdB s (i : Int)
theorem rb_bk {s : Dsk} {i : Nat} (hu : s.un = []) (hd : s.dn = false) (hi : i < s.bl.length) : rb s i = bk s i := by
  have ha : dAsk s (i : Int) = 0 := by unfold dAsk; rw [hd, if_neg (by simp), if_neg (by omega)]
  unfold rb rdB
  rw [if_neg (by omega), hu]
  rfl
def svW (a : Nat) (d : List Nat) : Nat → Nat → Dsk → Nat × Dsk
  | 0, _, s => (0, s)
  | k + 1, i, s => if wrE s ((a + 1 + i : Nat) : Int) (ck d i) ≠ 0 then (wrE s ((a + 1 + i : Nat) : Int) (ck d i), wrS s ((a + 1 + i : Nat) : Int) (ck d i)) else svW a d k (i + 1) (wrS s ((a + 1 + i : Nat) : Int) (ck d i))
/-- From the head on. -/
def svH (a n : Nat) (d : List Nat) (s : Dsk) : Nat × Nat × Dsk :=
  if wrE s (a : Int) (hdB n d) ≠ 0 then (0, wrE s (a : Int) (hdB n d), wrS s (a : Int) (hdB n d)) else
  if flE (wrS s (a : Int) (hdB n d)) ≠ 0 then (0, flE (wrS s (a : Int) (hdB n d)), flS (wrS s (a : Int) (hdB n d))) else (n, 0, flS (wrS s (a : Int) (hdB n d)))
/-- Behind the writes of the text. -/
def svF (a n : Nat) (d : List Nat) (w : Nat × Dsk) : Nat × Nat × Dsk :=
  if w.1 ≠ 0 then (0, w.1, w.2) else if flE w.2 ≠ 0 then (0, flE w.2, flS w.2) else svH a n d (flS w.2)
def svN (s : Dsk) (at_ room n : Nat) (d : List Nat) : Nat × Nat × Dsk :=
  if 4611686018427387904 < n then (0, 3, s) else svF (slA at_ room (n % 2)) n d (svW (slA at_ room (n % 2)) d ((d.length + 127) / 128) 0 s)
def svR (s : Dsk) (at_ room : Nat) (d : List Nat) : Nat × Nat × Dsk :=
  if room * 128 < d.length then (0, 161, s) else if s.dn = true then (0, 150, s) else svN s at_ room ((ldV (rb s) at_ room).2.1 + 1) d
/-- Under way: only the blocks of a text. -/
structure Und (bl : List (List Nat)) (a cnt : Nat) (s : Dsk) : Prop where
  bl : s.bl = bl
  un : ∀ u ∈ s.un, a + 1 ≤ u.1 ∧ u.1 < a + 1 + cnt
theorem lastU_app (un : List (Nat × List Nat)) (u : Nat × List Nat) (i : Nat) (d : List Nat) : lastU (un ++ [u]) i d = if u.1 = i then u.2 else lastU un i d := by
  unfold lastU
  rw [List.foldl_append]
  rfl
theorem dGo_gone {s : Dsk} (h : dGo s = true) : (dGone s).dn = s.dn := by
  unfold dGo at h
  unfold dGone
  split
  · rename_i q
    split
    · rename_i q2
      rw [q] at h
      simp [q2] at h
    · rfl
  · rfl
/-- A write in range on a disk that isn't down. -/
theorem wr_step {s : Dsk} {i : Nat} {b : List Nat} (hd : s.dn = false) (hi : i < s.bl.length) (hb : b.length ≤ 128) :
    (wrS s (i : Int) b).bl = s.bl ∧ (wrS s (i : Int) b).un = s.un ++ [(i, full b)] ∧ (wrE s (i : Int) b = 150 ∨ (wrE s (i : Int) b = 0 ∧ (wrS s (i : Int) b).dn = false)) := by
  have ha : dAsk s (i : Int) = 0 := by unfold dAsk; rw [hd, if_neg (by simp), if_neg (by omega)]
  have e : wrS s (i : Int) b = dGone { s with un := s.un ++ [(i, full b)] } := by
    unfold wrS
    rw [if_neg (by omega)]
    rfl
  obtain ⟨g1, g2⟩ := dGone_bl { s with un := s.un ++ [(i, full b)] }
  refine ⟨by rw [e]; exact g1, by rw [e]; exact g2, ?_⟩
  unfold wrE
  rw [if_neg (by omega), if_neg (by omega)]
  by_cases q : dGo s = true
  · right
    refine ⟨if_pos q, ?_⟩
    rw [e]
    have q2 : dGo { s with un := s.un ++ [(i, full b)] } = true := q
    rw [dGo_gone q2]
    exact hd
  · left; exact if_neg q
theorem fl_step {s : Dsk} (hd : s.dn = false) : (flE s = 150 ∧ (flS s).bl = s.bl ∧ (flS s).un = s.un) ∨ (flE s = 0 ∧ (flS s).bl = lay s.un s.bl ∧ (flS s).un = [] ∧ (flS s).dn = false) := by
  by_cases q : dGo s = true
  · right
    have e1 : flE s = 0 := by unfold flE; rw [hd, if_neg (by simp), if_pos q]
    have e2 : flS s = { dGone s with bl := lay s.un s.bl, un := [] } := by unfold flS; rw [if_neg (by rw [hd]; simp), if_pos q]
    rw [e1, e2]
    refine ⟨rfl, rfl, rfl, ?_⟩
    show (dGone s).dn = false
    rw [dGo_gone q]; exact hd
  · left
    have e1 : flE s = 150 := by unfold flE; rw [hd, if_neg (by simp), if_neg q]
    have e2 : flS s = dGone s := by unfold flS; rw [if_neg (by rw [hd]; simp), if_neg q]
    rw [e1, e2]
    exact ⟨rfl, (dGone_bl s).1, (dGone_bl s).2⟩
theorem svW_is (bl : List (List Nat)) (a cnt : Nat) (d : List Nat) (hl : a + 1 + cnt ≤ bl.length) : ∀ (k i : Nat) (s : Dsk), i + k = cnt → s.dn = false → Und bl a cnt s → (∀ j, j < i → lastU s.un (a + 1 + j) (bl.getD (a + 1 + j) []) = full (ck d j)) →
    Und bl a cnt (svW a d k i s).2 ∧ ((svW a d k i s).1 = 150 ∨ ((svW a d k i s).1 = 0 ∧ (svW a d k i s).2.dn = false ∧ ∀ j, j < cnt → lastU (svW a d k i s).2.un (a + 1 + j) (bl.getD (a + 1 + j) []) = full (ck d j))) := by
  intro k
  induction k with
  | zero =>
    intro i s hi hd hU hj
    have e : i = cnt := by omega
    subst e
    exact ⟨hU, Or.inr ⟨rfl, hd, hj⟩⟩
  | succ k ih =>
    intro i s hi hd hU hj
    obtain ⟨w1, w2, w3⟩ := wr_step (s := s) (i := a + 1 + i) (b := ck d i) hd (by rw [hU.bl]; omega) (ck_len d i)
    have hU2 : Und bl a cnt (wrS s ((a + 1 + i : Nat) : Int) (ck d i)) := ⟨by rw [w1]; exact hU.bl, fun u hu => by
      rw [w2] at hu
      rcases List.mem_append.1 hu with q | q
      · exact hU.un u q
      · obtain rfl : u = (a + 1 + i, full (ck d i)) := by simpa using q
        exact ⟨by show a + 1 ≤ a + 1 + i; omega, by show a + 1 + i < a + 1 + cnt; omega⟩⟩
    rcases w3 with w3 | ⟨w3, w4⟩
    · have e : svW a d (k + 1) i s = (150, wrS s ((a + 1 + i : Nat) : Int) (ck d i)) := by
        show (if wrE s ((a + 1 + i : Nat) : Int) (ck d i) ≠ 0 then _ else _) = _
        rw [if_pos (by omega), w3]
      rw [e]
      exact ⟨hU2, Or.inl rfl⟩
    · have e : svW a d (k + 1) i s = svW a d k (i + 1) (wrS s ((a + 1 + i : Nat) : Int) (ck d i)) := by
        show (if wrE s ((a + 1 + i : Nat) : Int) (ck d i) ≠ 0 then _ else _) = _
        rw [if_neg (by omega)]
      rw [e]
      refine ih (i + 1) _ (by omega) w4 hU2 (fun j hji => ?_)
      rw [w2, lastU_app]
      by_cases q : j = i
      · subst q; exact if_pos rfl
      · rw [if_neg (by show ¬ a + 1 + i = a + 1 + j; omega)]
        exact hj j (by omega)
end Go.Proofs.YtpmmfmlldkdfhaaDoor
set_option linter.unusedVariables false
set_option linter.unusedSimpArgs false
namespace Go.Proofs.YtpmmfmlldkdfhaaDoor
open Go.RowKit

set_option maxRecDepth 100000 in
set_option maxHeartbeats 4000000 in
theorem refBits (v : Value) (n : Nat) (f : Nat → Nat) (hn : n ≤ 100000) (hf : ∀ k, f k < 256) (w : World) (hl : Ls w v n (by8 f)) :
    Calls Tryd.prog 67 #[v] w fun e w' => ∃ v', e = .returned v' ∧ Ls w' v' (8 * n) (nt (cBt f)) ∧ w'.ownsRow w.heap.size 3 1 v' (8 * n) (vl (nt (cBt f)) (8 * n)) ∧ Below w.heap.size w w' := by
  obtain ⟨i0, hti, hi0, hi1, hi2⟩ := info_parts dinfo_int
  have HL : Hid (Ls w v n (by8 f)) := hl
  obtain ⟨ad, cap, rfl, l1, l2⟩ := hl.len
  unfold maxLen at l2
  clear hl
  go_enter Tryd.func67, Tryd.ntmps67
  go_upto_region 3 with fail
  go_loopw [3, 4] (fun s3 s4 wr => ∃ j : Nat, j ≤ n ∧ s4 = .int .i64 (j : Int) ∧ wr.ownsRow w.heap.size 3 1 s3 (8 * j) (vl (nt (cBt f)) (8 * j)) ∧ Hid (Below w.heap.size w wr)) (fun _ s4 _ => n - (intOf s4).toNat)
  case atStart => exact ⟨0, by omega, rfl, World.ownsRow_nil _ _ _ _, Below.refl _ _⟩
  case round =>
    obtain ⟨j, hj, rfl, hown, HW⟩ := hrel
    by_cases hlt : j < n
    · have hjI : (j : Int) < (n : Int) := by omega
      have HO : Hid (wr.ownsRow w.heap.size 3 1 u3 (8 * j) (vl (nt (cBt f)) (8 * j))) := hown
      clear hown
      rename World => wo
      go_upto_region 6 with fail
      go_loopw [3, 5] (fun s3 s5 wr => ∃ k : Nat, k ≤ 8 ∧ s5 = .int .i64 (k : Int) ∧ wr.ownsRow w.heap.size 3 1 s3 (8 * j + k) (vl (nt (cBt f)) (8 * j + k)) ∧ Hid (Below w.heap.size w wr)) (fun _ s5 _ => 8 - (intOf s5).toNat)
      case atStart => exact ⟨0, by omega, rfl, HO.out, HW⟩
      case round =>
        clear HO HW
        obtain ⟨k, hk, rfl, hown, HW⟩ := hrel
        by_cases hk8 : k < 8
        · have hkI : (k : Int) < 8 := by omega
          obtain ⟨b, o, cp, e1, hc⟩ := (HL.out.later HW.out).spot j hlt
          cases e1
          have hc' : wr.cell? ⟨b, o + j, none⟩ = some (.int .u8 ((f j : Nat) : Int)) := hc
          have hfj := hf j
          have HB : Hid (nt (cBt f) (8 * j + k) = .int .i64 ((f j / 2 ^ k % 2 : Nat) : Int)) := by
            show Value.int .i64 ((cBt f (8 * j + k) : Nat) : Int) = _
            unfold cBt
            rw [show (8 * j + k) / 8 = j by omega, show (8 * j + k) % 8 = k by omega]
          obtain ⟨y, hy⟩ : ∃ y : Nat, f j / 2 ^ k % 2 = y := ⟨_, rfl⟩
          have hy2 : y < 2 := by rw [← hy]; exact Nat.mod_lt _ (by omega)
          have hbit : bits BinOp.and IntKind.u8 (((f j : Nat) : Int) / 2 ^ k) 1 = (y : Int) := by
            have h1 : (((f j : Nat) : Int) / 2 ^ k) = ((f j / 2 ^ k : Nat) : Int) := by rw [Int.natCast_ediv, Int.natCast_pow]; rfl
            rw [h1, show (1 : Int) = ((1 : Nat) : Int) from rfl, and8 _ _ (Nat.lt_of_le_of_lt (Nat.div_le_self _ _) hfj) (by omega), Nat.and_one_is_mod, hy]
          have hw64 : wrap64 (y : Int) = (y : Int) := by unfold wrap64; omega
          rw [hy] at HB
          have HO : Hid (wr.ownsRow w.heap.size 3 1 u3 (8 * j + k) (vl (nt (cBt f)) (8 * j + k))) := hown
          have hsz := HW.out.size
          clear hc hy
          go_wp2_with (at_builtin; refine wpList_append_own _ rfl _ _ 127 rfl w.heap.size 3 i0 (.int .i64 0) 1 8 Tryd.underlying127 hti hi0 hi1 hi2 rfl (by decide) _ _ _ rfl (hown.alloc _) ⟨wr.heap.size, 0, none⟩ 1 1 [.int .i64 (y : Int)] rfl rfl (cell_one _ _ _ rfl) (ints_oneCell .i64 [(y : Int)]) (by unfold maxLen; omega) (by omega) (by simp; omega) ?_; intro v' w3 hown' hgrow hnil)
          have hown3 : w3.ownsRow w.heap.size 3 1 v' (8 * j + (k + 1)) (vl (nt (cBt f)) (8 * j + (k + 1))) := by rw [← Nat.add_assoc, vl_succ, HB.out]; exact hown'
          have HW3 : Hid (Below w.heap.size w w3) := below_grow HO.out HW.out hgrow
          clear hown' hgrow hnil hown HO HW
          go_wp2
          go_roundw
          case rel => exact ⟨k + 1, by omega, by go_num, hown3, HW3⟩
          case measure => simp [intOf]; omega
        · obtain rfl : k = 8 := by omega
          have hkI : ¬ ((8 : Nat) : Int) < 8 := by omega
          have HO : Hid (wr.ownsRow w.heap.size 3 1 u3 (8 * (j + 1)) (vl (nt (cBt f)) (8 * (j + 1)))) := by rw [show 8 * (j + 1) = 8 * j + 8 by omega]; exact hown
          clear hown
          go_wp2
          go_roundw
          case rel => exact ⟨j + 1, by omega, by go_num, HO.out, HW⟩
          case measure => simp [intOf]; omega
    · obtain rfl : j = n := by omega
      have hjI : ¬ (j : Int) < (j : Int) := by omega
      have HO : Hid (wr.ownsRow w.heap.size 3 1 u3 (8 * j) (vl (nt (cBt f)) (8 * j))) := hown
      clear hown
      go_wp2
      go_ret
      exact ⟨_, rfl, (ls_of_own HO.out).1, HO.out, HW.out⟩
end Go.Proofs.YtpmmfmlldkdfhaaDoor
set_option linter.unusedVariables false
set_option linter.unusedSimpArgs false
namespace Go.Proofs.YtpmmfmlldkdfhaaDoor
open Go.RowKit

theorem cB_eq (r b : Nat) (hb : b < 2) : cB r b = if r % 2 = b then r / 2 else (r / 2) ^^^ 3988292384 := by
  have h1 : (r ^^^ b) / 2 = r / 2 := by rw [Nat.xor_div_two, show b / 2 = 0 by omega, Nat.xor_zero]
  have h2 : (r ^^^ b) % 2 = (r + b) % 2 := xm2 r b
  unfold cB cZ
  rw [h1, h2]
  by_cases h : r % 2 = b
  · rw [if_neg (by omega), if_pos h]
  · rw [if_pos (by omega), if_neg h]; rfl
theorem xor_ones32 (b : Nat) (hb : b < 4294967296) : 4294967295 ^^^ b = 4294967295 - b := by
  have h : ∀ (k : Nat) (b : Nat), b < 2 ^ k → (2 ^ k - 1) ^^^ b = 2 ^ k - 1 - b := by
    intro k
    induction k with
    | zero => intro b hb; obtain rfl : b = 0 := by simpa using hb
              rfl
    | succ k ih =>
      intro b hb
      have hp : 0 < 2 ^ k := Nat.two_pow_pos k
      rw [Nat.pow_succ] at hb ⊢
      have h1 := ih (b / 2) (by omega)
      have d : ((2 ^ k * 2 - 1) ^^^ b) / 2 = (2 ^ k - 1) ^^^ (b / 2) := by rw [Nat.xor_div_two]; congr 1; omega
      have m : ((2 ^ k * 2 - 1) ^^^ b) % 2 = (2 ^ k * 2 - 1 + b) % 2 := xm2 _ _
      rw [h1] at d
      omega
  exact h 32 b hb
theorem not32 (s : Nat) (hs : s < 4294967296) : bits .xor .u32 IntKind.u32.max (s : Int) = ((4294967295 - s : Nat) : Int) := by
  rw [show IntKind.u32.max = ((4294967295 : Nat) : Int) from rfl, xor32 _ _ (by omega) hs, xor_ones32 s hs]
set_option maxRecDepth 100000 in
set_option maxHeartbeats 4000000 in
theorem refMore (s : Nat) (hs : s < 4294967296) (v : Value) (n : Nat) (f : Nat → Nat) (hn : n ≤ 100000) (hf : ∀ k, f k < 256) (w : World) (hl : Ls w v n (by8 f)) :
    Calls Tryd.prog 63 #[.int .u32 (s : Int), v] w fun e w' => e = .returned (.int .u32 ((4294967295 - cR (cBt f) (4294967295 - s) (8 * n) : Nat) : Int)) ∧ Below w.heap.size w w' := by
  have CB : Hid (Calls Tryd.prog 67 #[v] w fun e w' => ∃ v', e = .returned v' ∧ Ls w' v' (8 * n) (nt (cBt f)) ∧ w'.ownsRow w.heap.size 3 1 v' (8 * n) (vl (nt (cBt f)) (8 * n)) ∧ Below w.heap.size w w') := refBits v n f hn hf w hl
  obtain ⟨ad, cap, rfl, l1, l2⟩ := hl.len
  have ht : ∀ k, cBt f k < 2 := cBt_lt f
  generalize cBt f = t at *
  have hrt := cR_lt t (4294967295 - s) (by omega) ht
  have hnot := not32 s hs
  obtain ⟨r0, hr0⟩ : ∃ r0, 4294967295 - s = r0 := ⟨_, rfl⟩
  obtain ⟨N, hN⟩ : ∃ N, 8 * n = N := ⟨_, rfl⟩
  rw [hr0] at hrt hnot ⊢
  rw [hN] at CB ⊢
  have hN1 : N ≤ 800000 := by omega
  clear hl hr0 hN
  go_enter Tryd.func63, Tryd.ntmps63
  go_wp2_with fail
  refine CB.out.mono ?_
  rintro e w1 ⟨v1, rfl, hL, hown, hb⟩
  have HB : Hid (Below w.heap.size w w1) := hb
  have HL : Hid (Ls w1 v1 N (nt t)) := hL
  obtain ⟨ad1, cap1, rfl, m1, m2⟩ := hL.len
  unfold maxLen at m2
  clear hL hown hb CB
  go_upto_region 4 with fail
  go_loopw [5, 7] (fun s5 s7 wr => ∃ j : Nat, j ≤ N ∧ s7 = .int .i64 (j : Int) ∧ s5 = .int .u32 ((cR t r0 j : Nat) : Int) ∧ wr = w1) (fun _ s7 _ => N - (intOf s7).toNat)
  case atStart => exact ⟨0, by omega, rfl, rfl, rfl⟩
  case round =>
    obtain ⟨j, hj, rfl, rfl, rfl⟩ := hrel
    have hr := hrt j
    by_cases hlt : j < N
    · have hjI : (j : Int) < (N : Int) := by omega
      obtain ⟨b, o, cp, e1, hc⟩ := HL.out.spot j hlt
      cases e1
      have hc' : wr.cell? ⟨b, o + j, none⟩ = some (.int .i64 ((t j : Nat) : Int)) := hc
      have htj := ht j
      have HS : Hid (cR t r0 (j + 1) = if cR t r0 j % 2 = t j then cR t r0 j / 2 else (cR t r0 j / 2) ^^^ 3988292384) := by
        show cB (cR t r0 j) (t j) = _
        exact cB_eq _ _ htj
      have hw : IntKind.u32.wrap ((t j : Nat) : Int) = ((t j : Nat) : Int) := by rw [IntKind.wrap_u32]; omega
      have hx : bits .xor .u32 (((cR t r0 j : Nat) : Int) / 2) 3988292384 = ((cR t r0 j / 2 ^^^ 3988292384 : Nat) : Int) := by rw [show (((cR t r0 j : Nat) : Int) / 2) = ((cR t r0 j / 2 : Nat) : Int) by omega]; exact xor32 (cR t r0 j / 2) 3988292384 (by omega) (by omega)
      generalize cR t r0 j = r at *
      generalize t j = x at *
      clear hc
      by_cases hu : r % 2 = x
      · have HS2 : Hid (cR t r0 (j + 1) = r / 2) := by show _ = _; rw [HS.out, if_pos hu]
        have hb : ((r : Int) % 2 != (x : Int)) = false := by simp; omega
        go_wp2
        go_roundw
        case rel => exact ⟨j + 1, by omega, by go_num, by rw [HS2.out]; congr 1, trivial⟩
        case measure => simp [intOf]; omega
      · have HS2 : Hid (cR t r0 (j + 1) = (r / 2) ^^^ 3988292384) := by show _ = _; rw [HS.out, if_neg hu]
        have hb : ((r : Int) % 2 != (x : Int)) = true := by simp; omega
        go_wp2
        go_roundw
        case rel => exact ⟨j + 1, by omega, by go_num, by rw [HS2.out, ← hx], trivial⟩
        case measure => simp [intOf]; omega
    · obtain rfl : j = N := by omega
      have hjI : ¬ (j : Int) < (j : Int) := by omega
      have hnot2 := not32 (cR t r0 j) hr
      go_wp2
      go_ret
      exact ⟨by first | rfl | rw [← hnot2], HB.out⟩
end Go.Proofs.YtpmmfmlldkdfhaaDoor
