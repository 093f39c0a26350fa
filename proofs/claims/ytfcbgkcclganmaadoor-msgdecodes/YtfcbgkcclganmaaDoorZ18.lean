/-
The program's pack: how a reader reads a whole number, a Fix, a text, lists.
The program's pack: a reader whatever it has come to; Error, Done, Read; recover.
The program's pack: what a face's deferred function does, in a panic and without one.
The program's pack: a face, where the reading goes on, where it gives up, and where there is an error already.
-/
import Derived.Test.YtfcbgkcclganmaaDoorZ17
import Derived.Defers
import Derived.Recover
import Derived.Laws.Pointers

set_option linter.unusedVariables false
set_option linter.unusedSimpArgs false
namespace Go.Proofs.YtfcbgkcclganmaaDoor
open Go.RowKit

def AB (B : Nat) (x : List Nat) (v : Value) (w : World) : Prop := Bs w v x ∧ Ow B v
def AL (B : Nat) (x : List Int) (v : Value) (w : World) : Prop := Is w v x ∧ Ow B v
set_option maxRecDepth 100000 in
set_option maxHeartbeats 2000000 in
theorem whole_any (b : Nat) (F : Nat → Prop) (l : List Nat) (w : World) (h : Ro w b F l) :
    Calls Tryd.prog 63 #[.pointer (some ⟨b, 0, none⟩)] w fun e w' => EndR b F AI w (rI l) e w' := by
  have HR : Hid (Ro w b F l) := h
  cases hU : rU l with
  | error x =>
    have HU : Hid (rU l = .error x) := hU
    clear h hU
    go_enter Tryd.func63, Tryd.ntmps63
    go_wp2_with fail
    refine (count_any b F l w HR.out).mono ?_
    intro e w1 hE
    obtain ⟨hK, rfl, t, hR⟩ := hE.bad HU.out
    clear hE
    go_wp2
    exact ⟨rfl, EndR.mkBad (rI_no HU.out) ⟨hK, rfl, _, hR⟩⟩
  | ok z =>
    obtain ⟨n, t⟩ := z
    have HU : Hid (rU l = .ok (n, t)) := hU
    have hn := (en_rU h.yt hU).2
    have HI : Hid (rI l = .ok (ofC n, t)) := rI_ok hU
    clear h hU
    obtain ⟨q, hq⟩ : ∃ q, n / 2 = q := ⟨_, rfl⟩
    have hd1 : (n : Int) / 2 = (q : Int) := by omega
    have hw1 : IntKind.u64.wrap (q : Int) = (q : Int) := by rw [IntKind.wrap_u64]; omega
    have hw2 : IntKind.i64.wrap (q : Int) = (q : Int) := by rw [IntKind.wrap_i64]; omega
    have hand : bits .and .u64 (n : Int) 1 = ((n % 2 : Nat) : Int) := by
      have h := and64p n 1 hn (by omega)
      rw [Nat.and_one_is_mod] at h
      exact h
    by_cases hodd : n % 2 = 1
    · have hoI : ((n % 2 : Nat) : Int) = 1 := by omega
      have hx : IntKind.i64.wrap (-(q : Int) - 1) = -(q : Int) - 1 := by rw [IntKind.wrap_i64]; omega
      have hx3 : bits .xor .i64 (q : Int) (-1) = -(q : Int) - 1 := by
        have e : BitVec.ofInt 64 (-1 : Int) = BitVec.allOnes 64 := by decide
        show IntKind.i64.wrap ((BitVec.ofInt 64 (q : Int) ^^^ BitVec.ofInt 64 (-1 : Int)).toNat : Int) = _
        rw [e, BitVec.xor_allOnes, BitVec.toNat_not, BitVec.toNat_ofInt, IntKind.wrap_i64]
        omega
      have hx4 : bits .xor .i64 (-1) (q : Int) = -(q : Int) - 1 := by
        have e : BitVec.ofInt 64 (-1 : Int) = BitVec.allOnes 64 := by decide
        show IntKind.i64.wrap ((BitVec.ofInt 64 (-1 : Int) ^^^ BitVec.ofInt 64 (q : Int)).toNat : Int) = _
        rw [e, BitVec.xor_comm, BitVec.xor_allOnes, BitVec.toNat_not, BitVec.toNat_ofInt, IntKind.wrap_i64]
        omega
      have HO : Hid (ofC n = -(q : Int) - 1) := by
        show _ = _
        unfold ofC
        rw [if_pos hodd, hq]
      rw [hodd] at hand
      clear hq hodd hoI
      go_enter Tryd.func63, Tryd.ntmps63
      go_wp2_with fail
      refine (count_any b F l w HR.out).mono ?_
      intro e w1 hE
      obtain ⟨hK, v, rfl, rfl, hR⟩ := hE.good HU.out
      have HX : Hid (Kp (fun i => i = b) w w1 ∧ Ro w1 b F t) := ⟨hK, hR⟩
      clear hE hK hR
      go_wp2
      go_ret
      refine EndR.mkGood HI.out ⟨HX.out.1, _, rfl, ?_, HX.out.2⟩
      show _ = _
      rw [HO.out]
      rfl
    · have hodd0 : n % 2 = 0 := by omega
      have HO : Hid (ofC n = (q : Int)) := by
        show _ = _
        unfold ofC
        rw [if_neg hodd, hq]
      rw [hodd0] at hand
      clear hq hodd hodd0
      go_enter Tryd.func63, Tryd.ntmps63
      go_wp2_with fail
      refine (count_any b F l w HR.out).mono ?_
      intro e w1 hE
      obtain ⟨hK, v, rfl, rfl, hR⟩ := hE.good HU.out
      have HX : Hid (Kp (fun i => i = b) w w1 ∧ Ro w1 b F t) := ⟨hK, hR⟩
      clear hE hK hR
      go_wp2
      go_ret
      refine EndR.mkGood HI.out ⟨HX.out.1, _, rfl, ?_, HX.out.2⟩
      show _ = _
      rw [HO.out]
      rfl
theorem deN_snoc : ∀ (l : List Nat) (c : Nat), deN (l ++ [c]) = deN l + c * 256 ^ l.length := by
  intro l
  induction l with
  | nil => intro c; simp [deN]
  | cons d l ih =>
    intro c
    show d + 256 * deN (l ++ [c]) = d + 256 * deN l + c * 256 ^ (l.length + 1)
    rw [ih c, Nat.pow_succ, Nat.mul_add, ← Nat.add_assoc]
    congr 1
    rw [Nat.mul_comm (256 ^ l.length) 256, ← Nat.mul_assoc, ← Nat.mul_assoc, Nat.mul_comm c 256]
theorem pow256 (i : Nat) : 256 ^ i = 2 ^ (8 * i) := by rw [Nat.pow_mul]
theorem take_snoc (l : List Nat) (i : Nat) (h : i < l.length) : l.take (i + 1) = l.take i ++ [l.getD i 0] := by
  rw [List.take_add_one]
  simp [List.getD, h]
/-- One byte more of a number. -/
theorem deN_step (l : List Nat) (hb : ∀ c ∈ l, c < 256) (i : Nat) (h : i < l.length) (hi : i < 8) : deN (l.take i) < 2 ^ (8 * i) ∧ deN (l.take (i + 1)) = deN (l.take i) + l.getD i 0 * 2 ^ (8 * i) ∧ deN (l.take (i + 1)) < 18446744073709551616 := by
  have hl : (l.take i).length = i := by rw [List.length_take]; omega
  have h1 := deN_lt (l.take i) (fun c hc => hb c (List.mem_of_mem_take hc))
  rw [hl, pow256] at h1
  have h2 : deN (l.take (i + 1)) = deN (l.take i) + l.getD i 0 * 2 ^ (8 * i) := by rw [take_snoc l i h, deN_snoc, hl, pow256]
  have h3 := deN_lt (l.take (i + 1)) (fun c hc => hb c (List.mem_of_mem_take hc))
  have hl2 : (l.take (i + 1)).length = i + 1 := by rw [List.length_take]; omega
  rw [hl2] at h3
  have h4 : 256 ^ (i + 1) ≤ 256 ^ 8 := Nat.pow_le_pow_right (by omega) (by omega)
  exact ⟨h1, h2, Nat.lt_of_lt_of_le h3 h4⟩
set_option maxRecDepth 100000 in
set_option maxHeartbeats 2000000 in
theorem text_any (b : Nat) (F : Nat → Prop) (l : List Nat) (w : World) (h : Ro w b F l) :
    Calls Tryd.prog 65 #[.pointer (some ⟨b, 0, none⟩)] w fun e w' => EndR b F (AB w.heap.size) w (rB l) e w' := by
  have HR : Hid (Ro w b F l) := h
  cases hU : rU l with
  | error x =>
    have HU : Hid (rU l = .error x) := hU
    clear h hU
    go_enter Tryd.func65, Tryd.ntmps65
    go_wp2_with fail
    refine (count_any b F l w HR.out).mono ?_
    intro e w1 hE
    obtain ⟨hK, rfl, t, hR⟩ := hE.bad HU.out
    clear hE
    go_wp2
    exact ⟨rfl, EndR.mkBad (rB_no HU.out) ⟨hK, rfl, _, hR⟩⟩
  | ok z =>
    obtain ⟨n, t⟩ := z
    have HU : Hid (rU l = .ok (n, t)) := hU
    have hn := (en_rU h.yt hU).2
    clear h hU
    go_enter Tryd.func65, Tryd.ntmps65
    go_wp2_with fail
    refine (count_any b F l w HR.out).mono ?_
    intro e w1 hE
    obtain ⟨hK, v, rfl, rfl, hR⟩ := hE.good HU.out
    have HX : Hid (Kp (fun i => i = b) w w1 ∧ Ro w1 b F t) := ⟨hK, hR⟩
    clear hE hK hR
    by_cases hlt : t.length < n
    · have HB : Hid (rB l = .error 120) := rB_lack HU.out hlt
      have HL : Hid (t.length < n) := hlt
      clear hlt
      go_wp2_with fail
      refine (take_lack b n F t w1 HX.out.2 HL.out hn).mono ?_
      rintro e w2 ⟨rfl, rfl⟩
      go_wp2
      exact ⟨rfl, EndR.mkBad HB.out ⟨HX.out.1, rfl, _, HX.out.2⟩⟩
    · have HB : Hid (rB l = .ok (t.take n, t.drop n)) := rB_ok HU.out (by omega)
      have HL : Hid (n ≤ t.length) := by show _ ≤ _; omega
      clear hlt
      go_wp2_with fail
      refine (take_some b n F t w1 HX.out.2 HL.out).mono ?_
      rintro e w2 ⟨v2, rfl, hb2, -, hR2, hK2⟩
      have HL2 : Hid ((t.take n).length ≤ 10000000) := by
        show _ ≤ _
        have := HX.out.2.le
        rw [List.length_take]
        omega
      generalize t.take n = T at *
      have HY : Hid (Kp (fun i => i = b) w w2 ∧ Ro w2 b F (t.drop n) ∧ Bs w2 v2 T) := ⟨HX.out.1.trans hK2 (fun i hi => Or.inl hi), hR2, hb2⟩
      obtain ⟨ad, cap, rfl, -, -⟩ := hb2.len
      clear hb2 hR2 hK2
      go_wp2_with fail
      refine (clone_any w2 _ _ HY.out.2.2 HL2.out).mono ?_
      rintro e w3 ⟨v3, rfl, hO3, hB3⟩
      have hsz := HY.out.1.size
      have HZ : Hid (Kp (fun i => i = b) w w3 ∧ Ro w3 b F (t.drop n) ∧ AB w.heap.size T v3 w3) := ⟨HY.out.1.grow hB3 hsz, HY.out.2.1.later hB3, hO3.bs.1, hO3.bs.2.low hsz⟩
      obtain ⟨ad3, cap3, rfl⟩ := hO3.sl
      clear hO3 hB3
      go_wp2
      go_ret
      exact EndR.mkGood HB.out ⟨HZ.out.1, _, rfl, HZ.out.2.2, HZ.out.2.1⟩
theorem make_I12 (n : Nat) (hn : n ≤ 10000000) (w : World) : (Instr.makeSlice 88 (.int .u64 (n : Int)) (.int .u64 (n : Int))).run Tryd.prog w = .ok (.slice (some ⟨w.heap.size, 0, none⟩) n n) (w.alloc (.cells (madeCells #[.int .i64 0] n) 3)) := by
  have hd : (Tryd.prog.info? 3).map (fun i => (i.zero, i.size, i.bytes)) = some (some (.int .i64 0), 1, 8) := by kernel_rfl
  obtain ⟨i0, hi, hz0, hz1, hz2⟩ := info_parts hd
  have h := run_make (P := Tryd.prog) w 88 3 i0 (.int .i64 0) Tryd.underlying88 hi hz0 .u64 .u64 (n : Int) (n : Int) (by omega) (by omega) (by rw [hz2]; omega) (by omega)
  rw [hz1, Nat.mul_one] at h
  exact h
end Go.Proofs.YtfcbgkcclganmaaDoor
set_option linter.unusedVariables false
set_option linter.unusedSimpArgs false
namespace Go.Proofs.YtfcbgkcclganmaaDoor
open Go.RowKit

/-- A reader that has met an error (1: it is none). -/
structure Re (w : World) (b : Nat) (F : Nat → Prop) (x : Nat) : Prop where
  lt : ∀ k, F k → k < w.heap.size
  fb : F b
  c : (w.cell? ⟨b, 0, none⟩ = some (.bool false) ∧ x = 1) ∨ (w.cell? ⟨b, 0, none⟩ = some (.bool true) ∧ w.cell? ⟨b, 2, none⟩ = some (.int .i64 (x : Int)) ∧ x ≠ 0)
def Rp (w : World) (p : Value) (F : Nat → Prop) (s : Sta) : Prop :=
  (p = .pointer none ∧ s = .error 1 ∧ ∀ k, ¬ F k) ∨ ∃ b, p = .pointer (some ⟨b, 0, none⟩) ∧ ((∃ x, s = .error x ∧ Re w b F x) ∨ ∃ l, s = .ok l ∧ Ro w b F l)
theorem Re.kept {w w' : World} {b : Nat} {F : Nat → Prop} {x : Nat} (h : Re w b F x) (k : ∀ k, F k → w'.heap[k]? = w.heap[k]?) (hs : w.heap.size ≤ w'.heap.size) : Re w' b F x := by
  refine ⟨fun i hi => Nat.lt_of_lt_of_le (h.lt i hi) hs, h.fb, ?_⟩
  rcases h.c with ⟨h1, h2⟩ | ⟨h1, h2, h3⟩
  · exact Or.inl ⟨cell_blk (k b h.fb) h1, h2⟩
  · exact Or.inr ⟨cell_blk (k b h.fb) h1, cell_blk (k b h.fb) h2, h3⟩
theorem Re.later {w w' : World} {b : Nat} {F : Nat → Prop} {x : Nat} (h : Re w b F x) (hb : Below w.heap.size w w') : Re w' b F x := h.kept (fun k hk => hb.block k (h.lt k hk)) hb.size
theorem Re.ne {w : World} {b : Nat} {F : Nat → Prop} {x : Nat} (h : Re w b F x) : x ≠ 0 := by
  rcases h.c with ⟨h1, h2⟩ | ⟨h1, h2, h3⟩
  · omega
  · exact h3
theorem Rp.kept {w w' : World} {p : Value} {F : Nat → Prop} {s : Sta} (h : Rp w p F s) (k : ∀ k, F k → w'.heap[k]? = w.heap[k]?) (hs : w.heap.size ≤ w'.heap.size) : Rp w' p F s := by
  rcases h with h | ⟨b, e, ⟨x, e2, h⟩ | ⟨l, e2, h⟩⟩
  · exact Or.inl h
  · exact Or.inr ⟨b, e, Or.inl ⟨x, e2, h.kept k hs⟩⟩
  · exact Or.inr ⟨b, e, Or.inr ⟨l, e2, h.kept k hs⟩⟩
theorem Rp.lt {w : World} {p : Value} {F : Nat → Prop} {s : Sta} (h : Rp w p F s) : ∀ k, F k → k < w.heap.size := by
  rcases h with ⟨-, -, h⟩ | ⟨b, e, ⟨x, e2, h⟩ | ⟨l, e2, h⟩⟩
  · exact fun k hk => absurd hk (h k)
  · exact h.lt
  · exact h.lt
set_option maxRecDepth 100000 in
set_option maxHeartbeats 1000000 in
theorem rerr_nil (w : World) : Calls Tryd.prog 61 #[.pointer none] w fun e w' => e = .returned (.int .i64 1) ∧ w' = w := by
  go_enter Tryd.func61, Tryd.ntmps61
  go_wp2
  go_ret
  exact ⟨rfl, rfl⟩
set_option maxRecDepth 100000 in
set_option maxHeartbeats 1000000 in
theorem rerr_bad (b x : Nat) (F : Nat → Prop) (w : World) (h : Re w b F x) : Calls Tryd.prog 61 #[.pointer (some ⟨b, 0, none⟩)] w fun e w' => e = .returned (.int .i64 (x : Int)) ∧ w' = w := by
  rcases h.c with ⟨c0, rfl⟩ | ⟨c0, c2, -⟩
  · clear h
    go_enter Tryd.func61, Tryd.ntmps61
    go_wp2
    go_ret
    exact ⟨rfl, rfl⟩
  · clear h
    go_enter Tryd.func61, Tryd.ntmps61
    go_wp2
    go_ret
    exact ⟨rfl, rfl⟩
set_option maxRecDepth 100000 in
set_option maxHeartbeats 1000000 in
theorem rerr_ok (b : Nat) (F : Nat → Prop) (l : List Nat) (w : World) (h : Ro w b F l) : Calls Tryd.prog 61 #[.pointer (some ⟨b, 0, none⟩)] w fun e w' => e = .returned (.int .i64 0) ∧ w' = w := by
  have c0 := h.c0
  have c2 := h.c2
  clear h
  go_enter Tryd.func61, Tryd.ntmps61
  go_wp2
  go_ret
  exact ⟨rfl, rfl⟩
theorem rerr_any (w : World) (p : Value) (F : Nat → Prop) (s : Sta) (h : Rp w p F s) : Calls Tryd.prog 61 #[p] w fun e w' => e = .returned (.int .i64 ((dnE s : Nat) : Int)) ∧ w' = w := by
  rcases h with ⟨rfl, rfl, -⟩ | ⟨b, rfl, ⟨x, rfl, h⟩ | ⟨l, rfl, h⟩⟩
  · exact rerr_nil w
  · exact rerr_bad b x F w h
  · exact rerr_ok b F l w h
set_option maxRecDepth 100000 in
set_option maxHeartbeats 1000000 in
theorem rdone_any (w : World) (p : Value) (F : Nat → Prop) (s : Sta) (h : Rp w p F s) : Calls Tryd.prog 57 #[p] w fun e w' => e = .returned (.int .i64 ((rdE s : Nat) : Int)) ∧ w' = w := by
  have HR : Hid (Rp w p F s) := h
  have hE := rerr_any w p F s h
  cases s with
  | error x =>
    have hx : x ≠ 0 := by
      rcases h with ⟨rfl, e, -⟩ | ⟨b, rfl, ⟨x, e, h⟩ | ⟨l, e, h⟩⟩
      · cases e; omega
      · cases e; exact h.ne
      · cases e
    have hxI : ¬ (x : Int) = 0 := by omega
    have HE : Hid (Calls Tryd.prog 61 #[p] w fun e w' => e = .returned (.int .i64 ((x : Nat) : Int)) ∧ w' = w) := hE
    clear h hE hx
    go_enter Tryd.func57, Tryd.ntmps57
    go_wp2_with fail
    refine HE.out.mono ?_
    rintro e w1 ⟨rfl, rfl⟩
    go_wp2
    go_ret
    exact ⟨rfl, rfl⟩
  | ok l =>
    have HE : Hid (Calls Tryd.prog 61 #[p] w fun e w' => e = .returned (.int .i64 0) ∧ w' = w) := hE
    rcases h with ⟨rfl, e, -⟩ | ⟨b, rfl, ⟨x, e, h⟩ | ⟨l, e, h⟩⟩
    · cases e
    · cases e
    · cases e
      obtain ⟨v, c1, hb, -⟩ := h.c1
      obtain ⟨ad, cap, rfl, -, -⟩ := hb.len
      obtain ⟨n, hn⟩ : ∃ n, l.length = n := ⟨_, rfl⟩
      have HN : Hid (rdE (.ok l) = if n = 0 then 0 else 122) := by show rdE (.ok l) = _; rw [← hn]; rfl
      rw [hn] at c1
      clear h hb hn hE
      by_cases hz : n = 0
      · subst hz
        go_enter Tryd.func57, Tryd.ntmps57
        go_wp2_with fail
        refine HE.out.mono ?_
        rintro e w1 ⟨rfl, rfl⟩
        go_wp2
        go_ret
        exact ⟨by rw [HN.out]; rfl, rfl⟩
      · have hI : (0 : Int) < (n : Int) := by omega
        have HN2 : Hid (rdE (.ok l) = 122) := by show _ = _; rw [HN.out, if_neg hz]
        go_enter Tryd.func57, Tryd.ntmps57
        go_wp2_with fail
        refine HE.out.mono ?_
        rintro e w1 ⟨rfl, rfl⟩
        go_wp2
        go_ret
        exact ⟨by rw [HN2.out]; rfl, rfl⟩
set_option maxRecDepth 100000 in
set_option maxHeartbeats 1000000 in
theorem read_any (w : World) (v : Value) (l : List Nat) (h : Bs w v l) (hb : ∀ c ∈ l, c < 256) (hl : l.length ≤ 2000000) :
    Calls Tryd.prog 55 #[v] w fun e w' => ∃ p F, e = .returned p ∧ Rp w' p F (.ok l) ∧ (∀ k, F k → w.heap.size ≤ k) ∧ Below w.heap.size w w' := by
  have HB : Hid (Bs w v l ∧ (∀ c ∈ l, c < 256) ∧ l.length ≤ 2000000) := ⟨h, hb, hl⟩
  obtain ⟨ad, cap, rfl, -, -⟩ := h.len
  clear h hb hl
  go_enter Tryd.func55, Tryd.ntmps55
  go_wp2_with fail
  refine (clone_any w _ l HB.out.1 (by have := HB.out.2.2; omega)).mono ?_
  rintro e w1 ⟨v1, rfl, hO, hB⟩
  have HX : Hid (Bs w1 v1 l ∧ Ow w.heap.size v1 ∧ Below w.heap.size w w1) := ⟨hO.bs.1, hO.bs.2, hB⟩
  obtain ⟨ad1, cap1, rfl⟩ := hO.sl
  obtain ⟨n, hn⟩ : ∃ n, l.length = n := ⟨_, rfl⟩
  rw [hn] at HX
  clear hO hB
  rw [hn]
  clear hn
  go_wp2
  go_ret
  obtain ⟨x1, x2, x3⟩ := HX.out
  have hs := x3.size
  refine ⟨_, fun k => k = w1.heap.size ∨ ∃ a n' cap', Value.slice ad1 n cap1 = .slice (some a) n' cap' ∧ 0 < n' ∧ k = a.block, rfl, Or.inr ⟨w1.heap.size, rfl, Or.inr ⟨l, rfl, ?_⟩⟩, ?_, x3.alloc hs _⟩
  · refine ⟨?_, Or.inl rfl, by simp [go_sem], ⟨.slice ad1 n cap1, by simp [go_sem], x1.later (bel1 _ _), ?_⟩, by simp [go_sem], by simp [go_sem], by simp [go_sem], HB.out.2.1, by have := HB.out.2.2; omega⟩
    · intro k hk
      rw [World.size_alloc]
      rcases hk with rfl | ⟨a, n', cap', e, hp, rfl⟩
      · omega
      · have := x1.lo a n' cap' e hp
        omega
    · intro a n' cap' e hp
      refine ⟨Or.inr ⟨a, n', cap', e, hp, rfl⟩, ?_⟩
      have := x1.lo a n' cap' e hp
      omega
  · intro k hk
    rcases hk with rfl | ⟨a, n', cap', e, hp, rfl⟩
    · exact hs
    · exact x2 a n' cap' e hp
theorem opsS_recover {P : Program} {ops : Array Oper} {Q : Exit → Act → List Frame → World → Prop} {i : Nat} {rest : List Nat} {a : Act} {cs cs' : List Frame} {w : World} {o : Oper} {v : Value} (ho : ops[i]? = some o) (hw : Region.wanted o (yielded ops a.tmps) = true) (hr : (execOp a.eval o).run P w = .ok .recover w) (hc : recoverD cs = some (v, cs')) (h : wpOpsS P ops Q rest (a.put o.dst v) cs' w) : wpOpsS P ops Q (i :: rest) a cs w := by
  simp only [wpOpsS, ho, hw, hr, hc, if_true]
  exact h
theorem opsS_idle {P : Program} {ops : Array Oper} {Q : Exit → Act → List Frame → World → Prop} {i : Nat} {rest : List Nat} {a : Act} {cs : List Frame} {w : World} {o : Oper} (ho : ops[i]? = some o) (hw : Region.wanted o (yielded ops a.tmps) = true) (hr : (execOp a.eval o).run P w = .ok .recover w) (hc : recoverD cs = none) (h : wpOpsS P ops Q rest (a.put o.dst .nilIface) cs w) : wpOpsS P ops Q (i :: rest) a cs w := by
  simp only [wpOpsS, ho, hw, hr, hc, if_true]
  exact h
theorem opsS_val {P : Program} {ops : Array Oper} {Q : Exit → Act → List Frame → World → Prop} {i : Nat} {rest : List Nat} {a : Act} {cs : List Frame} {w : World} {o : Oper} (v : Value) (ho : ops[i]? = some o) (hw : Region.wanted o (yielded ops a.tmps) = true) (hr : (execOp a.eval o).run P w = .ok (.value v) w) (h : wpOpsS P ops Q rest (a.put o.dst v) cs w) : wpOpsS P ops Q (i :: rest) a cs w := by
  simp only [wpOpsS, ho, hw, hr, if_true]
  exact h
theorem asErrno (v : Value) (xT : TypeId) (w : World) : (Instr.typeAssert (.iface 28 v) xT 28 false).run Tryd.prog w = .ok v w := by
  have hu : (underlying 28).run Tryd.prog w = .ok (.int .i64) w := by
    first | exact run_underlying Tryd.underlying28 w | (unfold underlying; simp [go_sem, Tryd.underlying28])
  unfold Instr.typeAssert
  rw [Sem.run_bind, hu]
  rfl
/-- A reader's box as the catch leaves it. -/
def Cx (b : Nat) (e : Int) (w w' : World) : Prop := Kp (fun i => i = b) w w' ∧ w'.cell? ⟨b, 0, none⟩ = some (.bool true) ∧ w'.cell? ⟨b, 2, none⟩ = some (.int .i64 e)
end Go.Proofs.YtfcbgkcclganmaaDoor
set_option linter.unusedVariables false
set_option linter.unusedSimpArgs false
namespace Go.Proofs.YtfcbgkcclganmaaDoor
open Go.RowKit

set_option maxRecDepth 100000 in
set_option maxHeartbeats 400000 in
theorem catchI_panicking (br b : Nat) (e : Int) (v1 v2 : Value) (older : List PanicEntry) (w : World) (h0 : w.cell? ⟨br, 0, none⟩ = some (.pointer (some ⟨b, 0, none⟩))) (cb : w.cell? ⟨b, 0, none⟩ = some (.bool true)) (h1 : w.cell? ⟨b, 1, none⟩ = some v1) (f1 : w.frozen? ⟨b, 1, none⟩ = false) (h2 : w.cell? ⟨b, 2, none⟩ = some v2) (f2 : w.frozen? ⟨b, 2, none⟩ = false) (hne : br ≠ b) :
    CallsD Tryd.prog 66 #[.pointer (some ⟨br, 0, none⟩)] (.panicking ({ v := .iface 28 (.int .i64 e), recovered := false } :: older)) w fun d u' w' =>
      d = .returned (.tuple #[]) ∧ u' = .panicking ({ v := .iface 28 (.int .i64 e), recovered := true } :: older) ∧ Cx b e w w' := by
  have has := fun (W : World) => asErrno (.int .i64 e) 20 W
  refine callsD_of_wpS Tryd.func66 rfl fun c₀ cs hu => ?_
  simp only [Tryd.ntmps66, List.size_toArray, List.length_cons, List.length_nil, Nat.reduceAdd, Nat.reduceSub, Array.replicate_succ, Array.replicate_zero, List.push_toArray, List.append_toArray, List.nil_append, List.cons_append]
  apply wpS_seq
  apply wpS_region
  have hc : recoverD (c₀ :: cs) = some (.iface 28 (.int .i64 e), { c₀ with mode := .panicking ({ v := .iface 28 (.int .i64 e), recovered := true } :: older) } :: cs) := by
    simp [recoverD, hu]
  refine opsS_recover (i := 0) rfl (by kernel_rfl) rfl hc ?_
  simp only [Act.put, List.setIfInBounds_toArray, List.set_cons_zero, List.set_cons_succ]
  refine opsS_val (i := 1) (.iface 28 (.int .i64 e)) rfl (by kernel_rfl) (by kernel_rfl) ?_
  simp only [Act.put, List.setIfInBounds_toArray, List.set_cons_zero, List.set_cons_succ]
  refine wpS_of_wp ?_
  clear hc
  go_wp2
  go_region
  all_goals (try go_wp2)
  all_goals refine ⟨rfl, _, rfl, _, results_none rfl _ _ _, rfl, rfl, ?_⟩
  refine ⟨(((Kp.refl (fun i => i = b) w).set (p := ⟨b, 1, none⟩) (Or.inl rfl) _).set (p := ⟨b, 2, none⟩) (Or.inl rfl) _).drew, ?_, ?_⟩
  · show ((w.setCell ⟨b, 1, none⟩ (.slice none 0 0)).setCell ⟨b, 2, none⟩ (.int .i64 e)).cell? ⟨b, 0, none⟩ = _
    rw [World.cell?_setCell_other _ _ _ _ (by simp), World.cell?_setCell_other _ _ _ _ (by simp)]; exact cb
  · show ((w.setCell ⟨b, 1, none⟩ (.slice none 0 0)).setCell ⟨b, 2, none⟩ (.int .i64 e)).cell? ⟨b, 2, none⟩ = _
    exact World.cell?_setCell_same' _ _ _ (by rw [World.cell?_setCell_other _ _ _ _ (by simp), h2]; rfl)
set_option maxRecDepth 100000 in
set_option maxHeartbeats 400000 in
theorem catchI_idle (br : Nat) (w : World) :
    CallsD Tryd.prog 66 #[.pointer (some ⟨br, 0, none⟩)] .returning w fun d u' w' => d = .returned (.tuple #[]) ∧ u' = .returning ∧ w' = w := by
  refine callsD_of_wpS Tryd.func66 rfl fun c₀ cs hu => ?_
  simp only [Tryd.ntmps66, List.size_toArray, List.length_cons, List.length_nil, Nat.reduceAdd, Nat.reduceSub, Array.replicate_succ, Array.replicate_zero, List.push_toArray, List.append_toArray, List.nil_append, List.cons_append]
  apply wpS_seq
  apply wpS_region
  have hc : recoverD (c₀ :: cs) = none := by
    simp [recoverD, hu]
  refine opsS_idle (i := 0) rfl (by kernel_rfl) rfl hc ?_
  simp only [Act.put, List.setIfInBounds_toArray, List.set_cons_zero, List.set_cons_succ]
  refine opsS_val (i := 1) .nilIface rfl (by kernel_rfl) (by kernel_rfl) ?_
  simp only [Act.put, List.setIfInBounds_toArray, List.set_cons_zero, List.set_cons_succ]
  refine wpS_of_wp ?_
  clear hc
  go_wp2
  refine ⟨rfl, .returning, ?_, _, results_none rfl _ _ _, rfl, rfl, rfl⟩
  cases c₀
  simp_all
set_option maxRecDepth 100000 in
set_option maxHeartbeats 400000 in
theorem catchB_panicking (br b : Nat) (e : Int) (v1 v2 : Value) (older : List PanicEntry) (w : World) (h0 : w.cell? ⟨br, 0, none⟩ = some (.pointer (some ⟨b, 0, none⟩))) (cb : w.cell? ⟨b, 0, none⟩ = some (.bool true)) (h1 : w.cell? ⟨b, 1, none⟩ = some v1) (f1 : w.frozen? ⟨b, 1, none⟩ = false) (h2 : w.cell? ⟨b, 2, none⟩ = some v2) (f2 : w.frozen? ⟨b, 2, none⟩ = false) (hne : br ≠ b) :
    CallsD Tryd.prog 68 #[.pointer (some ⟨br, 0, none⟩)] (.panicking ({ v := .iface 28 (.int .i64 e), recovered := false } :: older)) w fun d u' w' =>
      d = .returned (.tuple #[]) ∧ u' = .panicking ({ v := .iface 28 (.int .i64 e), recovered := true } :: older) ∧ Cx b e w w' := by
  have has := fun (W : World) => asErrno (.int .i64 e) 20 W
  refine callsD_of_wpS Tryd.func68 rfl fun c₀ cs hu => ?_
  simp only [Tryd.ntmps68, List.size_toArray, List.length_cons, List.length_nil, Nat.reduceAdd, Nat.reduceSub, Array.replicate_succ, Array.replicate_zero, List.push_toArray, List.append_toArray, List.nil_append, List.cons_append]
  apply wpS_seq
  apply wpS_region
  have hc : recoverD (c₀ :: cs) = some (.iface 28 (.int .i64 e), { c₀ with mode := .panicking ({ v := .iface 28 (.int .i64 e), recovered := true } :: older) } :: cs) := by
    simp [recoverD, hu]
  refine opsS_recover (i := 0) rfl (by kernel_rfl) rfl hc ?_
  simp only [Act.put, List.setIfInBounds_toArray, List.set_cons_zero, List.set_cons_succ]
  refine opsS_val (i := 1) (.iface 28 (.int .i64 e)) rfl (by kernel_rfl) (by kernel_rfl) ?_
  simp only [Act.put, List.setIfInBounds_toArray, List.set_cons_zero, List.set_cons_succ]
  refine wpS_of_wp ?_
  clear hc
  go_wp2
  go_region
  all_goals (try go_wp2)
  all_goals refine ⟨rfl, _, rfl, _, results_none rfl _ _ _, rfl, rfl, ?_⟩
  refine ⟨(((Kp.refl (fun i => i = b) w).set (p := ⟨b, 1, none⟩) (Or.inl rfl) _).set (p := ⟨b, 2, none⟩) (Or.inl rfl) _).drew, ?_, ?_⟩
  · show ((w.setCell ⟨b, 1, none⟩ (.slice none 0 0)).setCell ⟨b, 2, none⟩ (.int .i64 e)).cell? ⟨b, 0, none⟩ = _
    rw [World.cell?_setCell_other _ _ _ _ (by simp), World.cell?_setCell_other _ _ _ _ (by simp)]; exact cb
  · show ((w.setCell ⟨b, 1, none⟩ (.slice none 0 0)).setCell ⟨b, 2, none⟩ (.int .i64 e)).cell? ⟨b, 2, none⟩ = _
    exact World.cell?_setCell_same' _ _ _ (by rw [World.cell?_setCell_other _ _ _ _ (by simp), h2]; rfl)
set_option maxRecDepth 100000 in
set_option maxHeartbeats 400000 in
theorem catchB_idle (br : Nat) (w : World) :
    CallsD Tryd.prog 68 #[.pointer (some ⟨br, 0, none⟩)] .returning w fun d u' w' => d = .returned (.tuple #[]) ∧ u' = .returning ∧ w' = w := by
  refine callsD_of_wpS Tryd.func68 rfl fun c₀ cs hu => ?_
  simp only [Tryd.ntmps68, List.size_toArray, List.length_cons, List.length_nil, Nat.reduceAdd, Nat.reduceSub, Array.replicate_succ, Array.replicate_zero, List.push_toArray, List.append_toArray, List.nil_append, List.cons_append]
  apply wpS_seq
  apply wpS_region
  have hc : recoverD (c₀ :: cs) = none := by
    simp [recoverD, hu]
  refine opsS_idle (i := 0) rfl (by kernel_rfl) rfl hc ?_
  simp only [Act.put, List.setIfInBounds_toArray, List.set_cons_zero, List.set_cons_succ]
  refine opsS_val (i := 1) .nilIface rfl (by kernel_rfl) (by kernel_rfl) ?_
  simp only [Act.put, List.setIfInBounds_toArray, List.set_cons_zero, List.set_cons_succ]
  refine wpS_of_wp ?_
  clear hc
  go_wp2
  refine ⟨rfl, .returning, ?_, _, results_none rfl _ _ _, rfl, rfl, rfl⟩
  cases c₀
  simp_all
end Go.Proofs.YtfcbgkcclganmaaDoor
set_option linter.unusedVariables false
set_option linter.unusedSimpArgs false
namespace Go.Proofs.YtfcbgkcclganmaaDoor
open Go.RowKit

set_option maxRecDepth 100000 in
set_option maxHeartbeats 1000000 in
theorem faceI_ok (b : Nat) (F : Nat → Prop) (l : List Nat) (w : World) (h : Ro w b F l) (x : Int) (t : List Nat) (hr : rI l = .ok (x, t)) :
    Calls Tryd.prog 62 #[.pointer (some ⟨b, 0, none⟩), .func (.func 63) #[.pointer (some ⟨b, 0, none⟩)] #[]] w fun e w' => ∃ v, e = .returned v ∧ AI x v w' ∧ Ro w' b F t ∧ Kp (fun i => i = b) w w' := by
  have hmf : ∀ (fn : Fn) (first cap : Array Value) (w : World), (Instr.makeFunc fn first cap).run Tryd.prog w = .ok (.func fn first cap) w := fun _ _ _ _ => rfl
  have hlt := h.lt b h.fb
  obtain ⟨W, hW⟩ : ∃ W, W = w.alloc (.cells #[.pointer (some ⟨b, 0, none⟩)] 99) := ⟨_, rfl⟩
  have hB : Below w.heap.size w W := by rw [hW]; exact bel1 _ _
  have HW : Hid (Ro W b F l ∧ Kp (fun i => i = b) w W ∧ W.heap.size = w.heap.size + 1) := ⟨h.later hB, Kp.of hB, by rw [hW, World.size_alloc]⟩
  have x0 : W.cell? ⟨w.heap.size, 0, none⟩ = some (.pointer (some ⟨b, 0, none⟩)) := by rw [hW]; simp [go_sem]
  have HU : Hid (rI l = .ok (x, t)) := hr
  clear h hr hB
  go_enter_defers Tryd.func62, Tryd.ntmps62
  go_upto_region 1 with fail
  rw [← hW]
  clear hW
  go_wp2_with (go_at_call 61; refine (rerr_ok b F l _ HW.out.1).mono ?_; rintro e w9 ⟨rfl, rfl⟩)
  refine (whole_any b F l _ HW.out.1).mono ?_
  intro e W' hE
  obtain ⟨hK, v, rfl, hA, hR⟩ := hE.good HU.out
  have hsz := HW.out.2.2
  have HE : Hid (AI x v W' ∧ Ro W' b F t ∧ Kp (fun i => i = b) w W') := ⟨hA, hR, HW.out.2.1.trans hK (fun i hi => Or.inl hi)⟩
  obtain rfl := hA
  clear hE hK hR hsz
  go_wp2
  refine leaves_cons (f := 66) (args := #[.pointer (some ⟨w.heap.size, 0, none⟩)]) (by simp) (by simp [go_sem]) ?_
  refine (catchI_idle _ _).mono ?_
  rintro e u' w'' ⟨rfl, rfl, rfl⟩
  exact ⟨_, by simp [results, Tryd.results62, go_sem], _, rfl, HE.out.1, HE.out.2.1, HE.out.2.2⟩
set_option maxRecDepth 100000 in
set_option maxHeartbeats 1000000 in
theorem faceI_no (b : Nat) (F : Nat → Prop) (l : List Nat) (w : World) (h : Ro w b F l) (x : Nat) (hx : x ≠ 0) (hr : rI l = .error x) :
    Calls Tryd.prog 62 #[.pointer (some ⟨b, 0, none⟩), .func (.func 63) #[.pointer (some ⟨b, 0, none⟩)] #[]] w fun e w' => e = .returned (.int .i64 0) ∧ Re w' b F x ∧ Kp (fun i => i = b) w w' := by
  have HF : Hid ((∀ k, F k → k < w.heap.size) ∧ F b) := ⟨h.lt, h.fb⟩
  have hmf : ∀ (fn : Fn) (first cap : Array Value) (w : World), (Instr.makeFunc fn first cap).run Tryd.prog w = .ok (.func fn first cap) w := fun _ _ _ _ => rfl
  have hlt := h.lt b h.fb
  obtain ⟨W, hW⟩ : ∃ W, W = w.alloc (.cells #[.pointer (some ⟨b, 0, none⟩)] 99) := ⟨_, rfl⟩
  have hB : Below w.heap.size w W := by rw [hW]; exact bel1 _ _
  have HW : Hid (Ro W b F l ∧ Kp (fun i => i = b) w W ∧ W.heap.size = w.heap.size + 1) := ⟨h.later hB, Kp.of hB, by rw [hW, World.size_alloc]⟩
  have x0 : W.cell? ⟨w.heap.size, 0, none⟩ = some (.pointer (some ⟨b, 0, none⟩)) := by rw [hW]; simp [go_sem]
  have HU : Hid (rI l = .error x) := hr
  clear h hr hB
  go_enter_defers Tryd.func62, Tryd.ntmps62
  go_upto_region 1 with fail
  rw [← hW]
  clear hW
  go_wp2_with (go_at_call 61; refine (rerr_ok b F l _ HW.out.1).mono ?_; rintro e w9 ⟨rfl, rfl⟩)
  refine (whole_any b F l _ HW.out.1).mono ?_
  intro e W' hE
  obtain ⟨hK, rfl, t, hR⟩ := hE.bad HU.out
  have hK2 : Kp (fun i => i = b) w W' := HW.out.2.1.trans hK (fun i hi => Or.inl hi)
  have x1 : W'.cell? ⟨w.heap.size, 0, none⟩ = some (.pointer (some ⟨b, 0, none⟩)) := hK.cell (a := ⟨w.heap.size, 0, none⟩) (by dsimp only; omega) x0
  obtain ⟨v1, y1, -, -⟩ := hR.c1
  have HE : Hid (Ro W' b F t ∧ Kp (fun i => i = b) w W') := ⟨hR, hK2⟩
  clear hE hK hR hK2 x0
  go_wp2
  refine leaves_cons (f := 66) (args := #[.pointer (some ⟨w.heap.size, 0, none⟩)]) (by simp) (by simp [go_sem]) ?_
  refine (catchI_panicking w.heap.size b x v1 _ [] W' x1 HE.out.1.c0 y1 HE.out.1.f1 HE.out.1.c2 HE.out.1.f2 (by omega)).mono ?_
  rintro e u' w'' ⟨rfl, rfl, hC⟩
  refine ⟨.int .i64 0, by simp [results, Tryd.results62, go_sem], rfl, ⟨fun k hk => Nat.lt_of_lt_of_le (HF.out.1 k hk) (Nat.le_trans HE.out.2.size hC.1.size), HF.out.2, Or.inr ⟨hC.2.1, hC.2.2, hx⟩⟩, HE.out.2.trans hC.1 (fun i hi => Or.inl hi)⟩
set_option maxRecDepth 100000 in
set_option maxHeartbeats 1000000 in
theorem faceI_skip (p f : Value) (F : Nat → Prop) (w : World) (x : Nat) (hx : x ≠ 0) (h : Rp w p F (.error x)) :
    Calls Tryd.prog 62 #[p, f] w fun e w' => e = .returned (.int .i64 0) ∧ Below w.heap.size w w' := by
  have hxI : ¬ (x : Int) = 0 := by omega
  have h2 : ∃ q, p = .pointer q := by
    rcases h with ⟨rfl, -, -⟩ | ⟨b, rfl, -⟩
    · exact ⟨_, rfl⟩
    · exact ⟨_, rfl⟩
  obtain ⟨q, rfl⟩ := h2
  obtain ⟨W, hW⟩ : ∃ W, W = w.alloc (.cells #[.pointer q] 99) := ⟨_, rfl⟩
  have hB : Below w.heap.size w W := by rw [hW]; exact bel1 _ _
  have HE : Hid (Calls Tryd.prog 61 #[.pointer q] W fun e w' => e = .returned (.int .i64 ((x : Nat) : Int)) ∧ w' = W) := rerr_any W _ F _ (h.kept (fun k hk => hB.block k (h.lt k hk)) hB.size)
  have HB : Hid (Below w.heap.size w W) := hB
  have x0 : W.cell? ⟨w.heap.size, 0, none⟩ = some (.pointer q) := by rw [hW]; simp [go_sem]
  clear h hB hx
  go_enter_defers Tryd.func62, Tryd.ntmps62
  go_upto_region 1 with fail
  rw [← hW]
  clear hW
  go_wp2_with (go_at_call 61; refine HE.out.mono ?_; rintro e w9 ⟨rfl, rfl⟩)
  exact ⟨.int .i64 0, by simp [results, Tryd.results62, go_sem], rfl, HB.out⟩
set_option maxRecDepth 100000 in
set_option maxHeartbeats 1000000 in
theorem faceB_ok (b : Nat) (F : Nat → Prop) (l : List Nat) (w : World) (h : Ro w b F l) (x : List Nat) (t : List Nat) (hr : rB l = .ok (x, t)) :
    Calls Tryd.prog 64 #[.pointer (some ⟨b, 0, none⟩), .func (.func 65) #[.pointer (some ⟨b, 0, none⟩)] #[]] w fun e w' => ∃ v, e = .returned v ∧ (AB w.heap.size) x v w' ∧ Ro w' b F t ∧ Kp (fun i => i = b) w w' := by
  have hmf : ∀ (fn : Fn) (first cap : Array Value) (w : World), (Instr.makeFunc fn first cap).run Tryd.prog w = .ok (.func fn first cap) w := fun _ _ _ _ => rfl
  have hlt := h.lt b h.fb
  obtain ⟨W, hW⟩ : ∃ W, W = w.alloc (.cells #[.pointer (some ⟨b, 0, none⟩)] 99) := ⟨_, rfl⟩
  have hB : Below w.heap.size w W := by rw [hW]; exact bel1 _ _
  have HW : Hid (Ro W b F l ∧ Kp (fun i => i = b) w W ∧ W.heap.size = w.heap.size + 1) := ⟨h.later hB, Kp.of hB, by rw [hW, World.size_alloc]⟩
  have x0 : W.cell? ⟨w.heap.size, 0, none⟩ = some (.pointer (some ⟨b, 0, none⟩)) := by rw [hW]; simp [go_sem]
  have HU : Hid (rB l = .ok (x, t)) := hr
  clear h hr hB
  go_enter_defers Tryd.func64, Tryd.ntmps64
  go_upto_region 1 with fail
  rw [← hW]
  clear hW
  go_wp2_with (go_at_call 61; refine (rerr_ok b F l _ HW.out.1).mono ?_; rintro e w9 ⟨rfl, rfl⟩)
  refine (text_any b F l _ HW.out.1).mono ?_
  intro e W' hE
  obtain ⟨hK, v, rfl, hA, hR⟩ := hE.good HU.out
  have hsz := HW.out.2.2
  have HE : Hid ((AB w.heap.size) x v W' ∧ Ro W' b F t ∧ Kp (fun i => i = b) w W') := ⟨⟨hA.1, hA.2.low (by rw [hsz]; omega)⟩, hR, HW.out.2.1.trans hK (fun i hi => Or.inl hi)⟩
  obtain ⟨ad, cap, rfl, -, -⟩ := hA.1.len
  clear hE hK hR hA hsz
  go_wp2
  refine leaves_cons (f := 68) (args := #[.pointer (some ⟨w.heap.size, 0, none⟩)]) (by simp) (by simp [go_sem]) ?_
  refine (catchB_idle _ _).mono ?_
  rintro e u' w'' ⟨rfl, rfl, rfl⟩
  exact ⟨_, by simp [results, Tryd.results64, go_sem], _, rfl, HE.out.1, HE.out.2.1, HE.out.2.2⟩
set_option maxRecDepth 100000 in
set_option maxHeartbeats 1000000 in
theorem faceB_no (b : Nat) (F : Nat → Prop) (l : List Nat) (w : World) (h : Ro w b F l) (x : Nat) (hx : x ≠ 0) (hr : rB l = .error x) :
    Calls Tryd.prog 64 #[.pointer (some ⟨b, 0, none⟩), .func (.func 65) #[.pointer (some ⟨b, 0, none⟩)] #[]] w fun e w' => e = .returned (.slice none 0 0) ∧ Re w' b F x ∧ Kp (fun i => i = b) w w' := by
  have HF : Hid ((∀ k, F k → k < w.heap.size) ∧ F b) := ⟨h.lt, h.fb⟩
  have hmf : ∀ (fn : Fn) (first cap : Array Value) (w : World), (Instr.makeFunc fn first cap).run Tryd.prog w = .ok (.func fn first cap) w := fun _ _ _ _ => rfl
  have hlt := h.lt b h.fb
  obtain ⟨W, hW⟩ : ∃ W, W = w.alloc (.cells #[.pointer (some ⟨b, 0, none⟩)] 99) := ⟨_, rfl⟩
  have hB : Below w.heap.size w W := by rw [hW]; exact bel1 _ _
  have HW : Hid (Ro W b F l ∧ Kp (fun i => i = b) w W ∧ W.heap.size = w.heap.size + 1) := ⟨h.later hB, Kp.of hB, by rw [hW, World.size_alloc]⟩
  have x0 : W.cell? ⟨w.heap.size, 0, none⟩ = some (.pointer (some ⟨b, 0, none⟩)) := by rw [hW]; simp [go_sem]
  have HU : Hid (rB l = .error x) := hr
  clear h hr hB
  go_enter_defers Tryd.func64, Tryd.ntmps64
  go_upto_region 1 with fail
  rw [← hW]
  clear hW
  go_wp2_with (go_at_call 61; refine (rerr_ok b F l _ HW.out.1).mono ?_; rintro e w9 ⟨rfl, rfl⟩)
  refine (text_any b F l _ HW.out.1).mono ?_
  intro e W' hE
  obtain ⟨hK, rfl, t, hR⟩ := hE.bad HU.out
  have hK2 : Kp (fun i => i = b) w W' := HW.out.2.1.trans hK (fun i hi => Or.inl hi)
  have x1 : W'.cell? ⟨w.heap.size, 0, none⟩ = some (.pointer (some ⟨b, 0, none⟩)) := hK.cell (a := ⟨w.heap.size, 0, none⟩) (by dsimp only; omega) x0
  obtain ⟨v1, y1, -, -⟩ := hR.c1
  have HE : Hid (Ro W' b F t ∧ Kp (fun i => i = b) w W') := ⟨hR, hK2⟩
  clear hE hK hR hK2 x0
  go_wp2
  refine leaves_cons (f := 68) (args := #[.pointer (some ⟨w.heap.size, 0, none⟩)]) (by simp) (by simp [go_sem]) ?_
  refine (catchB_panicking w.heap.size b x v1 _ [] W' x1 HE.out.1.c0 y1 HE.out.1.f1 HE.out.1.c2 HE.out.1.f2 (by omega)).mono ?_
  rintro e u' w'' ⟨rfl, rfl, hC⟩
  refine ⟨.slice none 0 0, by simp [results, Tryd.results64, go_sem], rfl, ⟨fun k hk => Nat.lt_of_lt_of_le (HF.out.1 k hk) (Nat.le_trans HE.out.2.size hC.1.size), HF.out.2, Or.inr ⟨hC.2.1, hC.2.2, hx⟩⟩, HE.out.2.trans hC.1 (fun i hi => Or.inl hi)⟩
set_option maxRecDepth 100000 in
set_option maxHeartbeats 1000000 in
theorem faceB_skip (p f : Value) (F : Nat → Prop) (w : World) (x : Nat) (hx : x ≠ 0) (h : Rp w p F (.error x)) :
    Calls Tryd.prog 64 #[p, f] w fun e w' => e = .returned (.slice none 0 0) ∧ Below w.heap.size w w' := by
  have hxI : ¬ (x : Int) = 0 := by omega
  have h2 : ∃ q, p = .pointer q := by
    rcases h with ⟨rfl, -, -⟩ | ⟨b, rfl, -⟩
    · exact ⟨_, rfl⟩
    · exact ⟨_, rfl⟩
  obtain ⟨q, rfl⟩ := h2
  obtain ⟨W, hW⟩ : ∃ W, W = w.alloc (.cells #[.pointer q] 99) := ⟨_, rfl⟩
  have hB : Below w.heap.size w W := by rw [hW]; exact bel1 _ _
  have HE : Hid (Calls Tryd.prog 61 #[.pointer q] W fun e w' => e = .returned (.int .i64 ((x : Nat) : Int)) ∧ w' = W) := rerr_any W _ F _ (h.kept (fun k hk => hB.block k (h.lt k hk)) hB.size)
  have HB : Hid (Below w.heap.size w W) := hB
  have x0 : W.cell? ⟨w.heap.size, 0, none⟩ = some (.pointer q) := by rw [hW]; simp [go_sem]
  clear h hB hx
  go_enter_defers Tryd.func64, Tryd.ntmps64
  go_upto_region 1 with fail
  rw [← hW]
  clear hW
  go_wp2_with (go_at_call 61; refine HE.out.mono ?_; rintro e w9 ⟨rfl, rfl⟩)
  exact ⟨.slice none 0 0, by simp [results, Tryd.results64, go_sem], rfl, HB.out⟩
end Go.Proofs.YtfcbgkcclganmaaDoor
