/-
  Texts of this proof, joined: SnMath3 CRefA CRefB SnRefA SnRefB.
-/
import Derived.Test.YthnpdcblfocemaaGreatDoorSP00
import Derived.Test.YthnpdcblfocemaaGreatDoorSP01
set_option linter.unusedVariables false
set_option linter.unusedSimpArgs false
namespace Go.Proofs.YthnpdcblfocemaaGreatDoor

theorem slt_num {B : Nat → List Nat} {at_ room which N : Nat} {l : List Nat} (h : slt B at_ room which = (l, N)) (hN : 1 ≤ N) : gt (B (slA at_ room which)) 120 8 = N := by
  unfold slt at h
  split at h
  · rename_i hw
    split at h
    · have h2 := congrArg Prod.snd h
      have h3 : gt (B (slA at_ room which)) 0 8 = N := h2
      rw [← hw.1, h3]
    · have h2 : (0 : Nat) = N := congrArg Prod.snd h
      omega
  · have h2 : (0 : Nat) = N := congrArg Prod.snd h
    omega
theorem Jv.num {at_ room N : Nat} {last : List Nat} {B : Nat → List Nat} (h : Jv at_ room N last B) : gt (B (slA at_ room (N % 2))) 120 8 = N := by
  by_cases q : N = 0
  · rw [q]; exact h.zero q
  · exact slt_num (h.whole (by omega)) (by omega)
theorem Jv.same {at_ room N : Nat} {last : List Nat} {B B' : Nat → List Nat} (h : Jv at_ room N last B) (h1 : ∀ i, i ≤ room → B' (slA at_ room (N % 2) + i) = B (slA at_ room (N % 2) + i)) (h2 : gt (B' (slA at_ room ((N + 1) % 2))) 120 8 = gt (B (slA at_ room ((N + 1) % 2))) 120 8) : Jv at_ room N last B' := by
  refine ⟨fun q => ?_, fun q => ?_, ?_, ?_⟩
  · rw [slt_same h1]; exact h.whole q
  · have e := h1 0 (by omega)
    have h0 := h.zero q
    subst q
    have e2 : B' (slA at_ room 0) = B (slA at_ room 0) := e
    rw [e2]; exact h0
  · rw [h2]; exact h.oth
  · rw [h2]; exact h.ne
theorem Jv.torn {at_ room N k : Nat} {last d : List Nat} {B B' : Nat → List Nat} (h : Jv at_ room N last B) (hN : N + 1 ≤ 4611686018427387904) (hk : k ≤ 128) (hd : d.length ≤ room * 128) (hr : room ≤ 16384)
    (hX : okb (B (slA at_ room ((N + 1) % 2)))) (h1 : ∀ i, i ≤ room → B' (slA at_ room (N % 2) + i) = B (slA at_ room (N % 2) + i)) (hh : B' (slA at_ room ((N + 1) % 2)) = Go.Proofs.YthnpdcblfocemaaGreatDoor.torn k (hdB (N + 1) d) (B (slA at_ room ((N + 1) % 2))))
    (hB : ∀ i, i < room → (B' (slA at_ room ((N + 1) % 2) + 1 + i)).length = 128) (ht : ∀ i, i < room → i * 128 < d.length → B' (slA at_ room ((N + 1) % 2) + 1 + i) = full (ck d i)) :
    (Jv at_ room N last B' ∧ k ≠ 128) ∨ Jv at_ room (N + 1) d B' := by
  have hn8 : N + 1 < 256 ^ 8 := by
    have : (256 : Nat) ^ 8 = 18446744073709551616 := by decide
    omega
  by_cases hk1 : k < 120
  · left
    refine ⟨h.same h1 ?_, by omega⟩
    rw [hh]
    unfold gt
    rw [torn_high (hdB_len _ _) (by omega) (by omega)]
  · obtain ⟨t, M, m1, m2⟩ := h.oth
    have hx := torn_last (k := k) (hdB_ok (N + 1) d) hX (by omega) hk
    rw [← hh, hdB_last d hn8, m2, mix_mix] at hx
    by_cases q : gt (B' (slA at_ room ((N + 1) % 2))) 120 8 = N + 1
    · right
      have hw := slt_new (n := N + 1) (by omega) hN (by omega) hk hX hd hr hh q hB ht
      have hnum := h.num
      have e0 := h1 0 (by omega)
      rw [Nat.add_zero] at e0
      rw [← e0] at hnum
      have e2 : (N + 1 + 1) % 2 = N % 2 := by omega
      refine ⟨fun _ => hw, fun z => by omega, ⟨0, N, Or.inl rfl, ?_⟩, ?_⟩
      · rw [e2, hnum, mix_zero]
      · rw [e2, hnum]; omega
    · left
      refine ⟨⟨fun z => ?_, fun z => ?_, ⟨max t (k - 120), M, m1, hx⟩, q⟩, fun z => ?_⟩
      · rw [slt_same h1]; exact h.whole z
      · have e := h1 0 (by omega)
        have h0 := h.zero z
        subst z
        have e2 : B' (slA at_ room 0) = B (slA at_ room 0) := e
        rw [e2]; exact h0
      · subst z
        apply q
        rw [hh]
        unfold gt
        rw [torn_low (hdB_len _ _) (by omega) (by omega)]
        exact hdB_last d hn8
def bk (s : Dsk) (i : Nat) : List Nat := s.bl.getD i []
def rb (s : Dsk) (i : Nat) : List Nat := rdB s (i : Int)
theorem rb_bk {s : Dsk} {i : Nat} (hu : s.un = []) (hd : s.dn = false) (hi : i < s.bl.length) : rb s i = bk s i := by
  have ha : dAsk s (i : Int) = 0 := by unfold dAsk; rw [hd, if_neg (by simp), if_neg (by omega)]
  unfold rb rdB
  rw [if_neg (by omega), hu]
  rfl
def svW (a : Nat) (d : List Nat) : Nat → Nat → Dsk → Nat × Dsk
  | 0, _, s => (0, s)
  | k + 1, i, s => if wrE s ((a + 1 + i : Nat) : Int) (ck d i) ≠ 0 then (wrE s ((a + 1 + i : Nat) : Int) (ck d i), wrS s ((a + 1 + i : Nat) : Int) (ck d i)) else svW a d k (i + 1) (wrS s ((a + 1 + i : Nat) : Int) (ck d i))
def svH (a n : Nat) (d : List Nat) (s : Dsk) : Nat × Nat × Dsk :=
  if wrE s (a : Int) (hdB n d) ≠ 0 then (0, wrE s (a : Int) (hdB n d), wrS s (a : Int) (hdB n d)) else
  if flE (wrS s (a : Int) (hdB n d)) ≠ 0 then (0, flE (wrS s (a : Int) (hdB n d)), flS (wrS s (a : Int) (hdB n d))) else (n, 0, flS (wrS s (a : Int) (hdB n d)))
def svF (a n : Nat) (d : List Nat) (w : Nat × Dsk) : Nat × Nat × Dsk :=
  if w.1 ≠ 0 then (0, w.1, w.2) else if flE w.2 ≠ 0 then (0, flE w.2, flS w.2) else svH a n d (flS w.2)
def svN (s : Dsk) (at_ room n : Nat) (d : List Nat) : Nat × Nat × Dsk :=
  if 4611686018427387904 < n then (0, 3, s) else svF (slA at_ room (n % 2)) n d (svW (slA at_ room (n % 2)) d ((d.length + 127) / 128) 0 s)
def svR (s : Dsk) (at_ room : Nat) (d : List Nat) : Nat × Nat × Dsk :=
  if room * 128 < d.length then (0, 161, s) else if s.dn = true then (0, 150, s) else svN s at_ room ((ldV (rb s) at_ room).2.1 + 1) d
structure Und (bl : List (List Nat)) (a cnt : Nat) (s : Dsk) : Prop where
  bl : s.bl = bl
  un : ∀ u ∈ s.un, a + 1 ≤ u.1 ∧ u.1 < a + 1 + cnt
theorem lastU_app (un : List (Nat × List Nat)) (u : Nat × List Nat) (i : Nat) (d : List Nat) : lastU (un ++ [u]) i d = if u.1 = i then u.2 else lastU un i d := by
  unfold lastU
  rw [List.foldl_append]
  rfl
theorem dGo_gone {s : Dsk} (h : dGo s = true) : (dGone s).dn = s.dn := by
  unfold dGo at h
  unfold dGone
  split
  · rename_i q
    split
    · rename_i q2
      rw [q] at h
      simp [q2] at h
    · rfl
  · rfl
theorem wr_step {s : Dsk} {i : Nat} {b : List Nat} (hd : s.dn = false) (hi : i < s.bl.length) (hb : b.length ≤ 128) :
    (wrS s (i : Int) b).bl = s.bl ∧ (wrS s (i : Int) b).un = s.un ++ [(i, full b)] ∧ (wrE s (i : Int) b = 150 ∨ (wrE s (i : Int) b = 0 ∧ (wrS s (i : Int) b).dn = false)) := by
  have ha : dAsk s (i : Int) = 0 := by unfold dAsk; rw [hd, if_neg (by simp), if_neg (by omega)]
  have e : wrS s (i : Int) b = dGone { s with un := s.un ++ [(i, full b)] } := by
    unfold wrS
    rw [if_neg (by omega)]
    rfl
  obtain ⟨g1, g2⟩ := dGone_bl { s with un := s.un ++ [(i, full b)] }
  refine ⟨by rw [e]; exact g1, by rw [e]; exact g2, ?_⟩
  unfold wrE
  rw [if_neg (by omega), if_neg (by omega)]
  by_cases q : dGo s = true
  · right
    refine ⟨if_pos q, ?_⟩
    rw [e]
    have q2 : dGo { s with un := s.un ++ [(i, full b)] } = true := q
    rw [dGo_gone q2]
    exact hd
  · left; exact if_neg q
theorem fl_step {s : Dsk} (hd : s.dn = false) : (flE s = 150 ∧ (flS s).bl = s.bl ∧ (flS s).un = s.un) ∨ (flE s = 0 ∧ (flS s).bl = lay s.un s.bl ∧ (flS s).un = [] ∧ (flS s).dn = false) := by
  by_cases q : dGo s = true
  · right
    have e1 : flE s = 0 := by unfold flE; rw [hd, if_neg (by simp), if_pos q]
    have e2 : flS s = { dGone s with bl := lay s.un s.bl, un := [] } := by unfold flS; rw [if_neg (by rw [hd]; simp), if_pos q]
    rw [e1, e2]
    refine ⟨rfl, rfl, rfl, ?_⟩
    show (dGone s).dn = false
    rw [dGo_gone q]; exact hd
  · left
    have e1 : flE s = 150 := by unfold flE; rw [hd, if_neg (by simp), if_neg q]
    have e2 : flS s = dGone s := by unfold flS; rw [if_neg (by rw [hd]; simp), if_neg q]
    rw [e1, e2]
    exact ⟨rfl, (dGone_bl s).1, (dGone_bl s).2⟩
theorem svW_is (bl : List (List Nat)) (a cnt : Nat) (d : List Nat) (hl : a + 1 + cnt ≤ bl.length) : ∀ (k i : Nat) (s : Dsk), i + k = cnt → s.dn = false → Und bl a cnt s → (∀ j, j < i → lastU s.un (a + 1 + j) (bl.getD (a + 1 + j) []) = full (ck d j)) →
    Und bl a cnt (svW a d k i s).2 ∧ ((svW a d k i s).1 = 150 ∨ ((svW a d k i s).1 = 0 ∧ (svW a d k i s).2.dn = false ∧ ∀ j, j < cnt → lastU (svW a d k i s).2.un (a + 1 + j) (bl.getD (a + 1 + j) []) = full (ck d j))) := by
  intro k
  induction k with
  | zero =>
    intro i s hi hd hU hj
    have e : i = cnt := by omega
    subst e
    exact ⟨hU, Or.inr ⟨rfl, hd, hj⟩⟩
  | succ k ih =>
    intro i s hi hd hU hj
    obtain ⟨w1, w2, w3⟩ := wr_step (s := s) (i := a + 1 + i) (b := ck d i) hd (by rw [hU.bl]; omega) (ck_len d i)
    have hU2 : Und bl a cnt (wrS s ((a + 1 + i : Nat) : Int) (ck d i)) := ⟨by rw [w1]; exact hU.bl, fun u hu => by
      rw [w2] at hu
      rcases List.mem_append.1 hu with q | q
      · exact hU.un u q
      · obtain rfl : u = (a + 1 + i, full (ck d i)) := by simpa using q
        exact ⟨by show a + 1 ≤ a + 1 + i; omega, by show a + 1 + i < a + 1 + cnt; omega⟩⟩
    rcases w3 with w3 | ⟨w3, w4⟩
    · have e : svW a d (k + 1) i s = (150, wrS s ((a + 1 + i : Nat) : Int) (ck d i)) := by
        show (if wrE s ((a + 1 + i : Nat) : Int) (ck d i) ≠ 0 then _ else _) = _
        rw [if_pos (by omega), w3]
      rw [e]
      exact ⟨hU2, Or.inl rfl⟩
    · have e : svW a d (k + 1) i s = svW a d k (i + 1) (wrS s ((a + 1 + i : Nat) : Int) (ck d i)) := by
        show (if wrE s ((a + 1 + i : Nat) : Int) (ck d i) ≠ 0 then _ else _) = _
        rw [if_neg (by omega)]
      rw [e]
      refine ih (i + 1) _ (by omega) w4 hU2 (fun j hji => ?_)
      rw [w2, lastU_app]
      by_cases q : j = i
      · subst q; exact if_pos rfl
      · rw [if_neg (by show ¬ a + 1 + i = a + 1 + j; omega)]
        exact hj j (by omega)
end Go.Proofs.YthnpdcblfocemaaGreatDoor
set_option linter.unusedVariables false
set_option linter.unusedSimpArgs false
namespace Go.Proofs.YthnpdcblfocemaaGreatDoor
open Go.RowKit

set_option maxRecDepth 100000 in
set_option maxHeartbeats 4000000 in
theorem refBits (v : Value) (n : Nat) (f : Nat → Nat) (hn : n ≤ 100000) (hf : ∀ k, f k < 256) (w : World) (hl : Ls w v n (by8 f)) :
    Calls Tryz.prog 100 #[v] w fun e w' => ∃ v', e = .returned v' ∧ Ls w' v' (8 * n) (nt (cBt f)) ∧ w'.ownsRow w.heap.size 3 1 v' (8 * n) (vl (nt (cBt f)) (8 * n)) ∧ Below w.heap.size w w' := by
  obtain ⟨i0, hti, hi0, hi1, hi2⟩ := info_parts dinfo_int
  have HL : Hid (Ls w v n (by8 f)) := hl
  obtain ⟨ad, cap, rfl, l1, l2⟩ := hl.len
  unfold maxLen at l2
  clear hl
  go_enter Tryz.func100, Tryz.ntmps100
  go_upto_region 3 with fail
  go_loopw [3, 4] (fun s3 s4 wr => ∃ j : Nat, j ≤ n ∧ s4 = .int .i64 (j : Int) ∧ wr.ownsRow w.heap.size 3 1 s3 (8 * j) (vl (nt (cBt f)) (8 * j)) ∧ Hid (Below w.heap.size w wr)) (fun _ s4 _ => n - (intOf s4).toNat)
  case atStart => exact ⟨0, by omega, rfl, World.ownsRow_nil _ _ _ _, Below.refl _ _⟩
  case round =>
    obtain ⟨j, hj, rfl, hown, HW⟩ := hrel
    by_cases hlt : j < n
    · have hjI : (j : Int) < (n : Int) := by omega
      have HO : Hid (wr.ownsRow w.heap.size 3 1 u3 (8 * j) (vl (nt (cBt f)) (8 * j))) := hown
      clear hown
      rename World => wo
      go_upto_region 6 with fail
      go_loopw [3, 5] (fun s3 s5 wr => ∃ k : Nat, k ≤ 8 ∧ s5 = .int .i64 (k : Int) ∧ wr.ownsRow w.heap.size 3 1 s3 (8 * j + k) (vl (nt (cBt f)) (8 * j + k)) ∧ Hid (Below w.heap.size w wr)) (fun _ s5 _ => 8 - (intOf s5).toNat)
      case atStart => exact ⟨0, by omega, rfl, HO.out, HW⟩
      case round =>
        clear HO HW
        obtain ⟨k, hk, rfl, hown, HW⟩ := hrel
        by_cases hk8 : k < 8
        · have hkI : (k : Int) < 8 := by omega
          obtain ⟨b, o, cp, e1, hc⟩ := (HL.out.later HW.out).spot j hlt
          cases e1
          have hc' : wr.cell? ⟨b, o + j, none⟩ = some (.int .u8 ((f j : Nat) : Int)) := hc
          have hfj := hf j
          have HB : Hid (nt (cBt f) (8 * j + k) = .int .i64 ((f j / 2 ^ k % 2 : Nat) : Int)) := by
            show Value.int .i64 ((cBt f (8 * j + k) : Nat) : Int) = _
            unfold cBt
            rw [show (8 * j + k) / 8 = j by omega, show (8 * j + k) % 8 = k by omega]
          obtain ⟨y, hy⟩ : ∃ y : Nat, f j / 2 ^ k % 2 = y := ⟨_, rfl⟩
          have hy2 : y < 2 := by rw [← hy]; exact Nat.mod_lt _ (by omega)
          have hbit : bits BinOp.and IntKind.u8 (((f j : Nat) : Int) / 2 ^ k) 1 = (y : Int) := by
            have h1 : (((f j : Nat) : Int) / 2 ^ k) = ((f j / 2 ^ k : Nat) : Int) := by rw [Int.natCast_ediv, Int.natCast_pow]; rfl
            rw [h1, show (1 : Int) = ((1 : Nat) : Int) from rfl, and8 _ _ (Nat.lt_of_le_of_lt (Nat.div_le_self _ _) hfj) (by omega), Nat.and_one_is_mod, hy]
          have hw64 : wrap64 (y : Int) = (y : Int) := by unfold wrap64; omega
          rw [hy] at HB
          have HO : Hid (wr.ownsRow w.heap.size 3 1 u3 (8 * j + k) (vl (nt (cBt f)) (8 * j + k))) := hown
          have hsz := HW.out.size
          clear hc hy
          go_wp2_with (at_builtin; refine wpList_append_own _ rfl _ _ 168 rfl w.heap.size 3 i0 (.int .i64 0) 1 8 Tryz.underlying168 hti hi0 hi1 hi2 rfl (by decide) _ _ _ rfl (hown.alloc _) ⟨wr.heap.size, 0, none⟩ 1 1 [.int .i64 (y : Int)] rfl rfl (cell_one _ _ _ rfl) (ints_oneCell .i64 [(y : Int)]) (by unfold maxLen; omega) (by omega) (by simp; omega) ?_; intro v' w3 hown' hgrow hnil)
          have hown3 : w3.ownsRow w.heap.size 3 1 v' (8 * j + (k + 1)) (vl (nt (cBt f)) (8 * j + (k + 1))) := by rw [← Nat.add_assoc, vl_succ, HB.out]; exact hown'
          have HW3 : Hid (Below w.heap.size w w3) := below_grow HO.out HW.out hgrow
          clear hown' hgrow hnil hown HO HW
          go_wp2
          go_roundw
          case rel => exact ⟨k + 1, by omega, by go_num, hown3, HW3⟩
          case measure => simp [intOf]; omega
        · obtain rfl : k = 8 := by omega
          have hkI : ¬ ((8 : Nat) : Int) < 8 := by omega
          have HO : Hid (wr.ownsRow w.heap.size 3 1 u3 (8 * (j + 1)) (vl (nt (cBt f)) (8 * (j + 1)))) := by rw [show 8 * (j + 1) = 8 * j + 8 by omega]; exact hown
          clear hown
          go_wp2
          go_roundw
          case rel => exact ⟨j + 1, by omega, by go_num, HO.out, HW⟩
          case measure => simp [intOf]; omega
    · obtain rfl : j = n := by omega
      have hjI : ¬ (j : Int) < (j : Int) := by omega
      have HO : Hid (wr.ownsRow w.heap.size 3 1 u3 (8 * j) (vl (nt (cBt f)) (8 * j))) := hown
      clear hown
      go_wp2
      go_ret
      exact ⟨_, rfl, (ls_of_own HO.out).1, HO.out, HW.out⟩
end Go.Proofs.YthnpdcblfocemaaGreatDoor
set_option linter.unusedVariables false
set_option linter.unusedSimpArgs false
namespace Go.Proofs.YthnpdcblfocemaaGreatDoor
open Go.RowKit

theorem cB_eq (r b : Nat) (hb : b < 2) : cB r b = if r % 2 = b then r / 2 else (r / 2) ^^^ 3988292384 := by
  have h1 : (r ^^^ b) / 2 = r / 2 := by rw [Nat.xor_div_two, show b / 2 = 0 by omega, Nat.xor_zero]
  have h2 : (r ^^^ b) % 2 = (r + b) % 2 := xm2 r b
  unfold cB cZ
  rw [h1, h2]
  by_cases h : r % 2 = b
  · rw [if_neg (by omega), if_pos h]
  · rw [if_pos (by omega), if_neg h]; rfl
theorem xor_ones32 (b : Nat) (hb : b < 4294967296) : 4294967295 ^^^ b = 4294967295 - b := by
  have h : ∀ (k : Nat) (b : Nat), b < 2 ^ k → (2 ^ k - 1) ^^^ b = 2 ^ k - 1 - b := by
    intro k
    induction k with
    | zero => intro b hb; obtain rfl : b = 0 := by simpa using hb
              rfl
    | succ k ih =>
      intro b hb
      have hp : 0 < 2 ^ k := Nat.two_pow_pos k
      rw [Nat.pow_succ] at hb ⊢
      have h1 := ih (b / 2) (by omega)
      have d : ((2 ^ k * 2 - 1) ^^^ b) / 2 = (2 ^ k - 1) ^^^ (b / 2) := by rw [Nat.xor_div_two]; congr 1; omega
      have m : ((2 ^ k * 2 - 1) ^^^ b) % 2 = (2 ^ k * 2 - 1 + b) % 2 := xm2 _ _
      rw [h1] at d
      omega
  exact h 32 b hb
theorem not32 (s : Nat) (hs : s < 4294967296) : bits .xor .u32 IntKind.u32.max (s : Int) = ((4294967295 - s : Nat) : Int) := by
  rw [show IntKind.u32.max = ((4294967295 : Nat) : Int) from rfl, xor32 _ _ (by omega) hs, xor_ones32 s hs]
set_option maxRecDepth 100000 in
set_option maxHeartbeats 4000000 in
theorem refMore (s : Nat) (hs : s < 4294967296) (v : Value) (n : Nat) (f : Nat → Nat) (hn : n ≤ 100000) (hf : ∀ k, f k < 256) (w : World) (hl : Ls w v n (by8 f)) :
    Calls Tryz.prog 89 #[.int .u32 (s : Int), v] w fun e w' => e = .returned (.int .u32 ((4294967295 - cR (cBt f) (4294967295 - s) (8 * n) : Nat) : Int)) ∧ Below w.heap.size w w' := by
  have CB : Hid (Calls Tryz.prog 100 #[v] w fun e w' => ∃ v', e = .returned v' ∧ Ls w' v' (8 * n) (nt (cBt f)) ∧ w'.ownsRow w.heap.size 3 1 v' (8 * n) (vl (nt (cBt f)) (8 * n)) ∧ Below w.heap.size w w') := refBits v n f hn hf w hl
  obtain ⟨ad, cap, rfl, l1, l2⟩ := hl.len
  have ht : ∀ k, cBt f k < 2 := cBt_lt f
  generalize cBt f = t at *
  have hrt := cR_lt t (4294967295 - s) (by omega) ht
  have hnot := not32 s hs
  obtain ⟨r0, hr0⟩ : ∃ r0, 4294967295 - s = r0 := ⟨_, rfl⟩
  obtain ⟨N, hN⟩ : ∃ N, 8 * n = N := ⟨_, rfl⟩
  rw [hr0] at hrt hnot ⊢
  rw [hN] at CB ⊢
  have hN1 : N ≤ 800000 := by omega
  clear hl hr0 hN
  go_enter Tryz.func89, Tryz.ntmps89
  go_wp2_with fail
  refine CB.out.mono ?_
  rintro e w1 ⟨v1, rfl, hL, hown, hb⟩
  have HB : Hid (Below w.heap.size w w1) := hb
  have HL : Hid (Ls w1 v1 N (nt t)) := hL
  obtain ⟨ad1, cap1, rfl, m1, m2⟩ := hL.len
  unfold maxLen at m2
  clear hL hown hb CB
  go_upto_region 4 with fail
  go_loopw [5, 7] (fun s5 s7 wr => ∃ j : Nat, j ≤ N ∧ s7 = .int .i64 (j : Int) ∧ s5 = .int .u32 ((cR t r0 j : Nat) : Int) ∧ wr = w1) (fun _ s7 _ => N - (intOf s7).toNat)
  case atStart => exact ⟨0, by omega, rfl, rfl, rfl⟩
  case round =>
    obtain ⟨j, hj, rfl, rfl, rfl⟩ := hrel
    have hr := hrt j
    by_cases hlt : j < N
    · have hjI : (j : Int) < (N : Int) := by omega
      obtain ⟨b, o, cp, e1, hc⟩ := HL.out.spot j hlt
      cases e1
      have hc' : wr.cell? ⟨b, o + j, none⟩ = some (.int .i64 ((t j : Nat) : Int)) := hc
      have htj := ht j
      have HS : Hid (cR t r0 (j + 1) = if cR t r0 j % 2 = t j then cR t r0 j / 2 else (cR t r0 j / 2) ^^^ 3988292384) := by
        show cB (cR t r0 j) (t j) = _
        exact cB_eq _ _ htj
      have hw : IntKind.u32.wrap ((t j : Nat) : Int) = ((t j : Nat) : Int) := by rw [IntKind.wrap_u32]; omega
      have hx : bits .xor .u32 (((cR t r0 j : Nat) : Int) / 2) 3988292384 = ((cR t r0 j / 2 ^^^ 3988292384 : Nat) : Int) := by rw [show (((cR t r0 j : Nat) : Int) / 2) = ((cR t r0 j / 2 : Nat) : Int) by omega]; exact xor32 (cR t r0 j / 2) 3988292384 (by omega) (by omega)
      generalize cR t r0 j = r at *
      generalize t j = x at *
      clear hc
      by_cases hu : r % 2 = x
      · have HS2 : Hid (cR t r0 (j + 1) = r / 2) := by show _ = _; rw [HS.out, if_pos hu]
        have hb : ((r : Int) % 2 != (x : Int)) = false := by simp; omega
        go_wp2
        go_roundw
        case rel => exact ⟨j + 1, by omega, by go_num, by rw [HS2.out]; congr 1, trivial⟩
        case measure => simp [intOf]; omega
      · have HS2 : Hid (cR t r0 (j + 1) = (r / 2) ^^^ 3988292384) := by show _ = _; rw [HS.out, if_neg hu]
        have hb : ((r : Int) % 2 != (x : Int)) = true := by simp; omega
        go_wp2
        go_roundw
        case rel => exact ⟨j + 1, by omega, by go_num, by rw [HS2.out, ← hx], trivial⟩
        case measure => simp [intOf]; omega
    · obtain rfl : j = N := by omega
      have hjI : ¬ (j : Int) < (j : Int) := by omega
      have hnot2 := not32 (cR t r0 j) hr
      go_wp2
      go_ret
      exact ⟨by first | rfl | rw [← hnot2], HB.out⟩
end Go.Proofs.YthnpdcblfocemaaGreatDoor
set_option linter.unusedVariables false
set_option linter.unusedSimpArgs false
namespace Go.Proofs.YthnpdcblfocemaaGreatDoor
open Go.RowKit

theorem enN_take16 (n : Nat) : ∀ (k i : Nat), i < k → (enN n k).take (i + 1) = (enN n k).take i ++ [n / 256 ^ i % 256] := by
  intro k
  induction k generalizing n with
  | zero => intro i hi; omega
  | succ k ih =>
    intro i hi
    cases i with
    | zero => simp [enN]
    | succ i =>
      show (n % 256 :: enN (n / 256) k).take (i + 1 + 1) = (n % 256 :: enN (n / 256) k).take (i + 1) ++ _
      rw [List.take_succ_cons, List.take_succ_cons, ih (n / 256) i (by omega), List.cons_append, Nat.div_div_eq_div_mul, Nat.pow_succ, Nat.mul_comm (256 ^ i) 256]
set_option maxRecDepth 100000 in
set_option maxHeartbeats 2000000 in
theorem refPut (n k : Nat) (hn : n < 18446744073709551616) (hk : k ≤ 8) (w : World) :
    Calls Tryz.prog 82 #[.int .u64 (n : Int), .int .i64 (k : Int)] w fun e w' => ∃ v, e = .returned v ∧ Ob w.heap.size w' v (enN n k) ∧ Below w.heap.size w w' := by
  go_enter Tryz.func82, Tryz.ntmps82
  go_upto_region 3 with fail
  go_loopw [0, 5, 6] (fun s0 s5 s6 wr => ∃ j : Nat, j ≤ k ∧ s6 = .int .i64 (j : Int) ∧ s0 = .int .u64 ((n / 256 ^ j : Nat) : Int) ∧ Hid (Ob w.heap.size wr s5 ((enN n k).take j) ∧ Below w.heap.size w wr)) (fun _ _ s6 _ => k - (intOf s6).toNat)
  case atStart => exact ⟨0, by omega, rfl, by simp, by rw [List.take_zero]; exact ob_nil _ _, Below.refl _ _⟩
  case round =>
    obtain ⟨j, hj, rfl, rfl, HO⟩ := hrel
    obtain ⟨a5, c5, rfl⟩ := HO.out.1.sl
    by_cases hlt : j < k
    · have hjI : (j : Int) < (k : Int) := by omega
      have HE : Hid ((enN n k).take (j + 1) = (enN n k).take j ++ [n / 256 ^ j % 256] ∧ ((enN n k).take j).length ≤ 8) := ⟨enN_take16 n k j hlt, by rw [List.length_take, enN_len]; omega⟩
      have hd : n / 256 ^ (j + 1) = n / 256 ^ j / 256 := by rw [Nat.pow_succ, Nat.div_div_eq_div_mul]
      have hlt2 : n / 256 ^ j ≤ n := Nat.div_le_self _ _
      have HN : Hid (n / 256 ^ (j + 1) = n / 256 ^ j / 256) := hd
      clear hd
      generalize n / 256 ^ j = q at *
      obtain ⟨r, hr⟩ : ∃ r, q % 256 = r := ⟨_, rfl⟩
      obtain ⟨q2, hq2⟩ : ∃ q2, q / 256 = q2 := ⟨_, rfl⟩
      rw [hr] at HE
      rw [hq2] at HN
      have r1 : (q : Int).tmod 256 = (r : Int) := by rw [Int.tmod_eq_emod_of_nonneg (by omega)]; omega
      have r2 : (q : Int).tdiv 256 = (q2 : Int) := by rw [Int.tdiv_eq_ediv_of_nonneg (by omega)]; omega
      have w1 : IntKind.u64.wrap (r : Int) = (r : Int) := by rw [IntKind.wrap_u64]; omega
      have w2 : IntKind.u64.wrap (q2 : Int) = (q2 : Int) := by rw [IntKind.wrap_u64]; omega
      have w3 : IntKind.u8.wrap (r : Int) = (r : Int) := by rw [IntKind.wrap_u8]; omega
      have HL : Hid (Bs (wr.alloc (.cells #[.int .u8 (r : Int)] 5)) (.slice (some ⟨wr.heap.size, 0, none⟩) 1 1) [r]) := bs_one wr r _
      generalize hl : ((enN n k).take j).length = l at *
      have HLl : Hid (((enN n k).take j).length = l) := hl
      clear hr hq2 hl
      go_wp2_with (at_builtin; refine apB rfl _ _ rfl w.heap.size _ ((enN n k).take j) rfl (HO.out.1.later (bel1 _ _)) _ [r] rfl HL.out (by have := HE.out.2; have := HLl.out; simp at *; omega) (by rw [World.size_alloc]; have := HO.out.2.size; omega) ?_; intro v2 w2 hO2 hg2; have HO2 : Hid (Ob w.heap.size w2 v2 ((enN n k).take (j + 1)) ∧ Below w.heap.size w w2) := ⟨by rw [HE.out.1]; exact hO2, hg2.1 _ (HO.out.2.alloc HO.out.2.size _)⟩; clear hO2 hg2)
      go_roundw
      case rel => exact ⟨j + 1, by omega, by go_num, by rw [HN.out], HO2⟩
      case measure => simp [intOf]; omega
    · obtain rfl : j = k := by omega
      have hjI : ¬ (j : Int) < (j : Int) := by omega
      have HF : Hid (Ob w.heap.size wr (.slice a5 ((enN n j).take j).length c5) (enN n j)) := by
        have := HO.out.1
        rw [List.take_of_length_le (by rw [enN_len]; omega)] at this ⊢
        exact this
      generalize ((enN n j).take j).length = l at *
      go_wp2
      go_ret
      exact ⟨_, rfl, HF.out, HO.out.2⟩
theorem deN_drop (l : List Nat) (i : Nat) (hi : i < l.length) : deN (l.drop i) = l.getD i 0 + 256 * deN (l.drop (i + 1)) := by
  rw [drop_cons hi]
  rfl
set_option maxRecDepth 100000 in
set_option maxHeartbeats 2000000 in
theorem refGet (v : Value) (l : List Nat) (hb : ∀ c ∈ l, c < 256) (hl : l.length ≤ 8) (w : World) (h : Bs w v l) :
    Calls Tryz.prog 74 #[v] w fun e w' => e = .returned (.int .u64 ((deN l : Nat) : Int)) ∧ w' = w := by
  have HL : Hid (Bs w v l ∧ ∀ c ∈ l, c < 256) := ⟨h, hb⟩
  obtain ⟨ad, cap, rfl, k1, k2⟩ := h.len
  obtain ⟨n, hn⟩ : ∃ n, l.length = n := ⟨_, rfl⟩
  have HN : Hid (l.length = n) := hn
  rw [hn] at HL hl k1 ⊢
  clear h hb hn
  have hw0 : IntKind.i64.wrap ((n : Int) - 1) = (n : Int) - 1 := by rw [IntKind.wrap_i64]; omega
  go_enter Tryz.func74, Tryz.ntmps74
  go_upto_region 3 with fail
  go_loopw [3, 4] (fun s3 s4 wr => ∃ j : Nat, j ≤ n ∧ s4 = .int .i64 ((j : Int) - 1) ∧ s3 = .int .u64 ((deN (l.drop j) : Nat) : Int) ∧ wr = w) (fun _ s4 _ => (intOf s4 + 1).toNat)
  case atStart => exact ⟨n, by omega, rfl, by rw [List.drop_of_length_le (by have := HN.out; omega)]; rfl, rfl⟩
  case round =>
    obtain ⟨j, hj, rfl, rfl, hwr⟩ := hrel
    have hwr := hwr.symm
    subst hwr
    cases j with
    | zero =>
      have hjI : ¬ (0 : Int) ≤ ((0 : Nat) : Int) - 1 := by omega
      rw [List.drop_zero]
      go_wp2
      go_ret
      exact ⟨rfl, by trivial⟩
    | succ j =>
      have hjI : (0 : Int) ≤ (j : Int) := by omega
      have hjn : (j : Int) < (n : Int) := by omega
      have hN := HN.out
      obtain ⟨b, o, rfl, ca⟩ := HL.out.1.cel j (by omega)
      have HD : Hid (deN (l.drop j) = l.getD j 0 + 256 * deN (l.drop (j + 1))) := deN_drop l j (by omega)
      have hlt : deN (l.drop j) < 256 ^ 8 := by
        have h1 := deN_lt (l.drop j) (fun c hc => HL.out.2 c (List.mem_of_mem_drop hc))
        have h2 : (256 : Nat) ^ (l.drop j).length ≤ 256 ^ 8 := Nat.pow_le_pow_right (by omega) (by rw [List.length_drop]; omega)
        omega
      have hx : l.getD j 0 < 256 := getD_byte HL.out.2 j
      have hdd := HD.out
      obtain ⟨z, hz⟩ : ∃ z, deN (l.drop j) = z := ⟨_, rfl⟩
      have HZ : Hid (deN (l.drop j) = z) := hz
      rw [hz] at hlt hdd
      clear hz hN HD
      have he : ((j + 1 : Nat) : Int) - 1 = (j : Int) := by omega
      rw [he]
      generalize l.getD j 0 = x at *
      generalize deN (l.drop (j + 1)) = y at *
      obtain ⟨y2, hy2⟩ : ∃ y2, 256 * y = y2 := ⟨_, rfl⟩
      have m1 : (256 : Int) * (y : Int) = (y2 : Int) := by omega
      have m2 : (y : Int) * (256 : Int) = (y2 : Int) := by omega
      have p8 : (256 : Nat) ^ 8 = 18446744073709551616 := by decide
      have w1 : IntKind.u64.wrap (y2 : Int) = (y2 : Int) := by rw [IntKind.wrap_u64]; omega
      have w2 : IntKind.u64.wrap (x : Int) = (x : Int) := by rw [IntKind.wrap_u64]; omega
      have s1 : (y2 : Int) + (x : Int) = (z : Int) := by omega
      have w3 : IntKind.u64.wrap (z : Int) = (z : Int) := by rw [IntKind.wrap_u64]; omega
      have w4 : IntKind.i64.wrap ((j : Int) - 1) = (j : Int) - 1 := by rw [IntKind.wrap_i64]; omega
      clear hy2 hdd he
      go_wp2
      go_roundw
      case rel => exact ⟨j, by omega, rfl, by rw [HZ.out], by trivial⟩
      case measure => simp [intOf]
set_option maxRecDepth 100000 in
set_option maxHeartbeats 1000000 in
theorem refSum16 (l : List Nat) (hb : ∀ c ∈ l, c < 256) (hl : l.length ≤ 100000) (v : Value) (w : World) (h : Bs w v l) :
    Calls Tryz.prog 75 #[v] w fun e w' => e = .returned (.int .u64 ((sm l : Nat) : Int)) ∧ Below w.heap.size w w' := by
  have C : Hid (Calls Tryz.prog 89 #[.int .u32 0, v] w fun e w' => e = .returned (.int .u32 ((sm l : Nat) : Int)) ∧ Below w.heap.size w w') := refMore 0 (by omega) v l.length (fun k => l.getD k 0) hl (fun k => getD_byte hb k) w h
  have hs := sm_lt l
  obtain ⟨ad, cap, rfl, -, -⟩ := h.len
  have w1 : IntKind.u64.wrap ((sm l : Nat) : Int) = ((sm l : Nat) : Int) := by rw [IntKind.wrap_u64]; omega
  clear h hb hl hs
  generalize sm l = s at *
  go_enter Tryz.func75, Tryz.ntmps75
  go_wp2_with fail
  refine C.out.mono ?_
  rintro e w2 ⟨rfl, hb2⟩
  have HB : Hid (Below w.heap.size w w2) := hb2
  clear hb2 C
  go_wp2
  go_ret
  exact ⟨rfl, HB.out⟩
end Go.Proofs.YthnpdcblfocemaaGreatDoor
set_option linter.unusedVariables false
set_option linter.unusedSimpArgs false
namespace Go.Proofs.YthnpdcblfocemaaGreatDoor
open Go.RowKit

set_option maxRecDepth 100000 in
set_option maxHeartbeats 4000000 in
theorem refHead (n : Nat) (hn : n ≤ 4611686018427387904) (v : Value) (l : List Nat) (hb : ∀ c ∈ l, c < 256) (hl : l.length ≤ 100000) (w : World) (h : Bs w v l) :
    Calls Tryz.prog 68 #[.int .i64 (n : Int), v] w fun e w' => ∃ v', e = .returned v' ∧ Bs w' v' (hdB n l) ∧ Ow w.heap.size v' ∧ Below w.heap.size w w' := by
  have HL : Hid (Bs w v l ∧ (∀ c ∈ l, c < 256) ∧ ∃ u, l = u ∧ u.length ≤ 100000) := ⟨h, hb, _, rfl, hl⟩
  obtain ⟨ad, cap, rfl, -, -⟩ := h.len
  have HE : Hid (hdB n l = hd20 n l ++ (enN (sm (hd20 n l)) 4 ++ (List.replicate 96 0 ++ enN n 8)) ∧ hd20 n l = enN n 8 ++ (enN l.length 8 ++ enN (sm l) 4) ∧ (hd20 n l).length = 20) := ⟨rfl, rfl, hd20_len n l⟩
  have HY : Hid (∀ c ∈ hd20 n l, c < 256) := fun c hc => (hdB_ok n l).2 c (by unfold hdB; simp [hc])
  have H8 : Hid (∀ m k, (enN m k).length = k) := enN_len
  have hs := sm_lt l
  have hs2 := sm_lt (hd20 n l)
  have w1 : IntKind.u64.wrap (n : Int) = (n : Int) := by rw [IntKind.wrap_u64]; omega
  generalize hm : l.length = m at *
  have w2 : IntKind.u64.wrap (m : Int) = (m : Int) := by rw [IntKind.wrap_u64]; omega
  clear h hb hm
  go_enter Tryz.func68, Tryz.ntmps68
  go_wp2_with fail
  refine (refPut n 8 (by omega) (by omega) w).mono ?_
  rintro e u1 ⟨v1, rfl, hO, hB⟩
  have H1 : Hid (Ob w.heap.size u1 v1 (enN n 8) ∧ Below w.heap.size w u1) := ⟨hO, hB⟩
  obtain ⟨a1, c1, rfl⟩ := hO.sl
  clear hO hB
  have e8 := H8.out n 8
  rw [e8] at H1 ⊢
  go_wp2_with fail
  refine (refPut m 8 (by omega) (by omega) u1).mono ?_
  rintro e u2 ⟨v2, rfl, hO, hB⟩
  have H2 : Hid (Ob w.heap.size u2 (.slice a1 8 c1) (enN n 8) ∧ Bs u2 v2 (enN m 8) ∧ Below w.heap.size w u2) := ⟨H1.out.1.later hB, hO.bs.1, bchain H1.out.2 hB⟩
  obtain ⟨a2, c2, rfl⟩ := hO.sl
  clear hO hB H1
  go_upto_region 2 with (at_builtin; refine apB rfl _ _ rfl w.heap.size _ (enN n 8) rfl H2.out.1 _ (enN m 8) rfl H2.out.2.1 (by simp [enN_len]) H2.out.2.2.size ?_; intro v3 u3 hO3 hg3; have H3 : Hid (Ob w.heap.size u3 v3 (enN n 8 ++ enN m 8) ∧ Below w.heap.size w u3 ∧ Bs u3 (.slice ad m cap) l) := ⟨hO3, hg3.1 _ H2.out.2.2, HL.out.1.later (hg3.1 _ H2.out.2.2)⟩; obtain ⟨a3, c3, rfl⟩ := hO3.sl; clear hO3 hg3)
  clear H2
  go_wp2_with fail
  refine (refSum16 l HL.out.2.1 (by obtain ⟨u, e, hu⟩ := HL.out.2.2; rw [e]; exact hu) _ _ H3.out.2.2).mono ?_
  rintro e u4 ⟨rfl, hB⟩
  have H4 : Hid (Ob w.heap.size u4 (.slice a3 (enN n 8 ++ enN m 8).length c3) (enN n 8 ++ enN m 8) ∧ Below w.heap.size w u4) := ⟨H3.out.1.later hB, bchain H3.out.2.1 hB⟩
  clear hB H3
  go_wp2_with fail
  refine (refPut (sm l) 4 (by omega) (by omega) u4).mono ?_
  rintro e u5 ⟨v5, rfl, hO, hB⟩
  have H5 : Hid (Ob w.heap.size u5 (.slice a3 (enN n 8 ++ enN m 8).length c3) (enN n 8 ++ enN m 8) ∧ Bs u5 v5 (enN (sm l) 4) ∧ Below w.heap.size w u5) := ⟨H4.out.1.later hB, hO.bs.1, bchain H4.out.2 hB⟩
  obtain ⟨a5, c5, rfl⟩ := hO.sl
  clear hO hB H4
  go_upto_region 3 with (at_builtin; refine apB rfl _ _ rfl w.heap.size _ (enN n 8 ++ enN m 8) rfl H5.out.1 _ (enN (sm l) 4) rfl H5.out.2.1 (by simp [enN_len]) H5.out.2.2.size ?_; intro v6 u6 hO6 hg6; have H6 : Hid (Ob w.heap.size u6 v6 (hd20 n l) ∧ Below w.heap.size w u6 ∧ Bs u6 v6 (hd20 n l)) := ⟨by rw [HE.out.2.1, ← List.append_assoc]; exact hO6, hg6.1 _ H5.out.2.2, by rw [HE.out.2.1, ← List.append_assoc]; exact hO6.bs.1⟩; obtain ⟨a6, c6, rfl⟩ := H6.out.1.sl; clear hO6 hg6)
  clear H5
  go_wp2_with fail
  refine (refSum16 (hd20 n l) HY.out (by have := HE.out.2.2; omega) _ _ H6.out.2.2).mono ?_
  rintro e u7 ⟨rfl, hB⟩
  have H7 : Hid (Ob w.heap.size u7 (.slice a6 (hd20 n l).length c6) (hd20 n l) ∧ Below w.heap.size w u7) := ⟨H6.out.1.later hB, bchain H6.out.2.1 hB⟩
  clear hB H6
  generalize hS2 : sm (hd20 n l) = S2 at *
  go_wp2_with fail
  refine (refPut S2 4 (by omega) (by omega) u7).mono ?_
  rintro e u8 ⟨v8, rfl, hO, hB⟩
  have H8' : Hid (Ob w.heap.size u8 (.slice a6 (hd20 n l).length c6) (hd20 n l) ∧ Bs u8 v8 (enN S2 4) ∧ Below w.heap.size w u8) := ⟨H7.out.1.later hB, hO.bs.1, bchain H7.out.2 hB⟩
  obtain ⟨a8, c8, rfl⟩ := hO.sl
  clear hO hB H7
  go_upto_region 4 with (at_builtin; refine apB rfl _ _ rfl w.heap.size _ (hd20 n l) rfl H8'.out.1 _ (enN S2 4) rfl H8'.out.2.1 (by have := HE.out.2.2; simp [enN_len]; omega) H8'.out.2.2.size ?_; intro v9 u9 hO9 hg9; have H9 : Hid (Ob w.heap.size u9 v9 (hd20 n l ++ enN S2 4) ∧ Below w.heap.size w u9) := ⟨hO9, hg9.1 _ H8'.out.2.2⟩; obtain ⟨a9, c9, rfl⟩ := hO9.sl; clear hO9 hg9)
  clear H8'
  go_upto_region 5 with (at_builtin; refine apZ rfl _ _ rfl w.heap.size _ (hd20 n l ++ enN S2 4) rfl H9.out.1 96 rfl (by omega) (by have := HE.out.2.2; simp [enN_len]; omega) H9.out.2.size ?_; intro v10 u10 hO10 hg10; have H10 : Hid (Ob w.heap.size u10 v10 (hd20 n l ++ enN S2 4 ++ List.replicate 96 0) ∧ Below w.heap.size w u10) := ⟨hO10, hg10.1 _ H9.out.2⟩; obtain ⟨a10, c10, rfl⟩ := hO10.sl; clear hO10 hg10)
  clear H9
  go_wp2_with fail
  refine (refPut n 8 (by omega) (by omega) u10).mono ?_
  rintro e u11 ⟨v11, rfl, hO, hB⟩
  have H11 : Hid (Ob w.heap.size u11 (.slice a10 (hd20 n l ++ enN S2 4 ++ List.replicate 96 0).length c10) (hd20 n l ++ enN S2 4 ++ List.replicate 96 0) ∧ Bs u11 v11 (enN n 8) ∧ Below w.heap.size w u11) := ⟨H10.out.1.later hB, hO.bs.1, bchain H10.out.2 hB⟩
  obtain ⟨a11, c11, rfl⟩ := hO.sl
  clear hO hB H10
  go_wp2_with (at_builtin; refine apB rfl _ _ rfl w.heap.size _ (hd20 n l ++ enN S2 4 ++ List.replicate 96 0) rfl H11.out.1 _ (enN n 8) rfl H11.out.2.1 (by have := HE.out.2.2; simp [enN_len]; omega) H11.out.2.2.size ?_; intro v12 u12 hO12 hg12; have H12 : Hid (Ob w.heap.size u12 v12 (hdB n l) ∧ Below w.heap.size w u12) := ⟨by rw [HE.out.1, ← List.append_assoc, ← List.append_assoc]; exact hO12, hg12.1 _ H11.out.2.2⟩; obtain ⟨a12, c12, rfl⟩ := H12.out.1.sl; clear hO12 hg12)
  go_ret
  exact ⟨_, rfl, H12.out.1.bs.1, H12.out.1.bs.2, H12.out.2⟩
end Go.Proofs.YthnpdcblfocemaaGreatDoor
