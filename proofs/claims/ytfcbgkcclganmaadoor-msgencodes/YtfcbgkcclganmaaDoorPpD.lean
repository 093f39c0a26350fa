/-
  The program's pack: how a reader reads a whole number, a Fix, a text, lists.
-/
import Derived.Test.YtfcbgkcclganmaaDoorPpC
set_option linter.unusedVariables false
set_option linter.unusedSimpArgs false
namespace Go.Proofs.YtfcbgkcclganmaaDoor
open Go.RowKit

def AB (B : Nat) (x : List Nat) (v : Value) (w : World) : Prop := Bs w v x ∧ Ow B v
def AL (B : Nat) (x : List Int) (v : Value) (w : World) : Prop := Is w v x ∧ Ow B v
set_option maxRecDepth 100000 in
set_option maxHeartbeats 2000000 in
theorem whole_any (b : Nat) (F : Nat → Prop) (l : List Nat) (w : World) (h : Ro w b F l) :
    Calls Tryd.prog 63 #[.pointer (some ⟨b, 0, none⟩)] w fun e w' => EndR b F AI w (rI l) e w' := by
  have HR : Hid (Ro w b F l) := h
  cases hU : rU l with
  | error x =>
    have HU : Hid (rU l = .error x) := hU
    clear h hU
    go_enter Tryd.func63, Tryd.ntmps63
    go_wp2_with fail
    refine (count_any b F l w HR.out).mono ?_
    intro e w1 hE
    obtain ⟨hK, rfl, t, hR⟩ := hE.bad HU.out
    clear hE
    go_wp2
    exact ⟨rfl, EndR.mkBad (rI_no HU.out) ⟨hK, rfl, _, hR⟩⟩
  | ok z =>
    obtain ⟨n, t⟩ := z
    have HU : Hid (rU l = .ok (n, t)) := hU
    have hn := (en_rU h.yt hU).2
    have HI : Hid (rI l = .ok (ofC n, t)) := rI_ok hU
    clear h hU
    obtain ⟨q, hq⟩ : ∃ q, n / 2 = q := ⟨_, rfl⟩
    have hd1 : (n : Int) / 2 = (q : Int) := by omega
    have hw1 : IntKind.u64.wrap (q : Int) = (q : Int) := by rw [IntKind.wrap_u64]; omega
    have hw2 : IntKind.i64.wrap (q : Int) = (q : Int) := by rw [IntKind.wrap_i64]; omega
    have hand : bits .and .u64 (n : Int) 1 = ((n % 2 : Nat) : Int) := by
      have h := and64p n 1 hn (by omega)
      rw [Nat.and_one_is_mod] at h
      exact h
    by_cases hodd : n % 2 = 1
    · have hoI : ((n % 2 : Nat) : Int) = 1 := by omega
      have hx : IntKind.i64.wrap (-(q : Int) - 1) = -(q : Int) - 1 := by rw [IntKind.wrap_i64]; omega
      have hx3 : bits .xor .i64 (q : Int) (-1) = -(q : Int) - 1 := by
        have e : BitVec.ofInt 64 (-1 : Int) = BitVec.allOnes 64 := by decide
        show IntKind.i64.wrap ((BitVec.ofInt 64 (q : Int) ^^^ BitVec.ofInt 64 (-1 : Int)).toNat : Int) = _
        rw [e, BitVec.xor_allOnes, BitVec.toNat_not, BitVec.toNat_ofInt, IntKind.wrap_i64]
        omega
      have hx4 : bits .xor .i64 (-1) (q : Int) = -(q : Int) - 1 := by
        have e : BitVec.ofInt 64 (-1 : Int) = BitVec.allOnes 64 := by decide
        show IntKind.i64.wrap ((BitVec.ofInt 64 (-1 : Int) ^^^ BitVec.ofInt 64 (q : Int)).toNat : Int) = _
        rw [e, BitVec.xor_comm, BitVec.xor_allOnes, BitVec.toNat_not, BitVec.toNat_ofInt, IntKind.wrap_i64]
        omega
      have HO : Hid (ofC n = -(q : Int) - 1) := by
        show _ = _
        unfold ofC
        rw [if_pos hodd, hq]
      rw [hodd] at hand
      clear hq hodd hoI
      go_enter Tryd.func63, Tryd.ntmps63
      go_wp2_with fail
      refine (count_any b F l w HR.out).mono ?_
      intro e w1 hE
      obtain ⟨hK, v, rfl, rfl, hR⟩ := hE.good HU.out
      have HX : Hid (Kp (fun i => i = b) w w1 ∧ Ro w1 b F t) := ⟨hK, hR⟩
      clear hE hK hR
      go_wp2
      go_ret
      refine EndR.mkGood HI.out ⟨HX.out.1, _, rfl, ?_, HX.out.2⟩
      show _ = _
      rw [HO.out]
      rfl
    · have hodd0 : n % 2 = 0 := by omega
      have HO : Hid (ofC n = (q : Int)) := by
        show _ = _
        unfold ofC
        rw [if_neg hodd, hq]
      rw [hodd0] at hand
      clear hq hodd hodd0
      go_enter Tryd.func63, Tryd.ntmps63
      go_wp2_with fail
      refine (count_any b F l w HR.out).mono ?_
      intro e w1 hE
      obtain ⟨hK, v, rfl, rfl, hR⟩ := hE.good HU.out
      have HX : Hid (Kp (fun i => i = b) w w1 ∧ Ro w1 b F t) := ⟨hK, hR⟩
      clear hE hK hR
      go_wp2
      go_ret
      refine EndR.mkGood HI.out ⟨HX.out.1, _, rfl, ?_, HX.out.2⟩
      show _ = _
      rw [HO.out]
      rfl
theorem deN_snoc : ∀ (l : List Nat) (c : Nat), deN (l ++ [c]) = deN l + c * 256 ^ l.length := by
  intro l
  induction l with
  | nil => intro c; simp [deN]
  | cons d l ih =>
    intro c
    show d + 256 * deN (l ++ [c]) = d + 256 * deN l + c * 256 ^ (l.length + 1)
    rw [ih c, Nat.pow_succ, Nat.mul_add, ← Nat.add_assoc]
    congr 1
    rw [Nat.mul_comm (256 ^ l.length) 256, ← Nat.mul_assoc, ← Nat.mul_assoc, Nat.mul_comm c 256]
theorem pow256 (i : Nat) : 256 ^ i = 2 ^ (8 * i) := by rw [Nat.pow_mul]
theorem take_snoc (l : List Nat) (i : Nat) (h : i < l.length) : l.take (i + 1) = l.take i ++ [l.getD i 0] := by
  rw [List.take_add_one]
  simp [List.getD, h]
/-- One byte more of a number. -/
theorem deN_step (l : List Nat) (hb : ∀ c ∈ l, c < 256) (i : Nat) (h : i < l.length) (hi : i < 8) : deN (l.take i) < 2 ^ (8 * i) ∧ deN (l.take (i + 1)) = deN (l.take i) + l.getD i 0 * 2 ^ (8 * i) ∧ deN (l.take (i + 1)) < 18446744073709551616 := by
  have hl : (l.take i).length = i := by rw [List.length_take]; omega
  have h1 := deN_lt (l.take i) (fun c hc => hb c (List.mem_of_mem_take hc))
  rw [hl, pow256] at h1
  have h2 : deN (l.take (i + 1)) = deN (l.take i) + l.getD i 0 * 2 ^ (8 * i) := by rw [take_snoc l i h, deN_snoc, hl, pow256]
  have h3 := deN_lt (l.take (i + 1)) (fun c hc => hb c (List.mem_of_mem_take hc))
  have hl2 : (l.take (i + 1)).length = i + 1 := by rw [List.length_take]; omega
  rw [hl2] at h3
  have h4 : 256 ^ (i + 1) ≤ 256 ^ 8 := Nat.pow_le_pow_right (by omega) (by omega)
  exact ⟨h1, h2, Nat.lt_of_lt_of_le h3 h4⟩
set_option maxRecDepth 100000 in
set_option maxHeartbeats 2000000 in
theorem text_any (b : Nat) (F : Nat → Prop) (l : List Nat) (w : World) (h : Ro w b F l) :
    Calls Tryd.prog 65 #[.pointer (some ⟨b, 0, none⟩)] w fun e w' => EndR b F (AB w.heap.size) w (rB l) e w' := by
  have HR : Hid (Ro w b F l) := h
  cases hU : rU l with
  | error x =>
    have HU : Hid (rU l = .error x) := hU
    clear h hU
    go_enter Tryd.func65, Tryd.ntmps65
    go_wp2_with fail
    refine (count_any b F l w HR.out).mono ?_
    intro e w1 hE
    obtain ⟨hK, rfl, t, hR⟩ := hE.bad HU.out
    clear hE
    go_wp2
    exact ⟨rfl, EndR.mkBad (rB_no HU.out) ⟨hK, rfl, _, hR⟩⟩
  | ok z =>
    obtain ⟨n, t⟩ := z
    have HU : Hid (rU l = .ok (n, t)) := hU
    have hn := (en_rU h.yt hU).2
    clear h hU
    go_enter Tryd.func65, Tryd.ntmps65
    go_wp2_with fail
    refine (count_any b F l w HR.out).mono ?_
    intro e w1 hE
    obtain ⟨hK, v, rfl, rfl, hR⟩ := hE.good HU.out
    have HX : Hid (Kp (fun i => i = b) w w1 ∧ Ro w1 b F t) := ⟨hK, hR⟩
    clear hE hK hR
    by_cases hlt : t.length < n
    · have HB : Hid (rB l = .error 120) := rB_lack HU.out hlt
      have HL : Hid (t.length < n) := hlt
      clear hlt
      go_wp2_with fail
      refine (take_lack b n F t w1 HX.out.2 HL.out hn).mono ?_
      rintro e w2 ⟨rfl, rfl⟩
      go_wp2
      exact ⟨rfl, EndR.mkBad HB.out ⟨HX.out.1, rfl, _, HX.out.2⟩⟩
    · have HB : Hid (rB l = .ok (t.take n, t.drop n)) := rB_ok HU.out (by omega)
      have HL : Hid (n ≤ t.length) := by show _ ≤ _; omega
      clear hlt
      go_wp2_with fail
      refine (take_some b n F t w1 HX.out.2 HL.out).mono ?_
      rintro e w2 ⟨v2, rfl, hb2, -, hR2, hK2⟩
      have HL2 : Hid ((t.take n).length ≤ 10000000) := by
        show _ ≤ _
        have := HX.out.2.le
        rw [List.length_take]
        omega
      generalize t.take n = T at *
      have HY : Hid (Kp (fun i => i = b) w w2 ∧ Ro w2 b F (t.drop n) ∧ Bs w2 v2 T) := ⟨HX.out.1.trans hK2 (fun i hi => Or.inl hi), hR2, hb2⟩
      obtain ⟨ad, cap, rfl, -, -⟩ := hb2.len
      clear hb2 hR2 hK2
      go_wp2_with fail
      refine (clone_any w2 _ _ HY.out.2.2 HL2.out).mono ?_
      rintro e w3 ⟨v3, rfl, hO3, hB3⟩
      have hsz := HY.out.1.size
      have HZ : Hid (Kp (fun i => i = b) w w3 ∧ Ro w3 b F (t.drop n) ∧ AB w.heap.size T v3 w3) := ⟨HY.out.1.grow hB3 hsz, HY.out.2.1.later hB3, hO3.bs.1, hO3.bs.2.low hsz⟩
      obtain ⟨ad3, cap3, rfl⟩ := hO3.sl
      clear hO3 hB3
      go_wp2
      go_ret
      exact EndR.mkGood HB.out ⟨HZ.out.1, _, rfl, HZ.out.2.2, HZ.out.2.1⟩
theorem make_I12 (n : Nat) (hn : n ≤ 10000000) (w : World) : (Instr.makeSlice 88 (.int .u64 (n : Int)) (.int .u64 (n : Int))).run Tryd.prog w = .ok (.slice (some ⟨w.heap.size, 0, none⟩) n n) (w.alloc (.cells (madeCells #[.int .i64 0] n) 3)) := by
  have hd : (Tryd.prog.info? 3).map (fun i => (i.zero, i.size, i.bytes)) = some (some (.int .i64 0), 1, 8) := by kernel_rfl
  obtain ⟨i0, hi, hz0, hz1, hz2⟩ := info_parts hd
  have h := run_make (P := Tryd.prog) w 88 3 i0 (.int .i64 0) Tryd.underlying88 hi hz0 .u64 .u64 (n : Int) (n : Int) (by omega) (by omega) (by rw [hz2]; omega) (by omega)
  rw [hz1, Nat.mul_one] at h
  exact h
end Go.Proofs.YtfcbgkcclganmaaDoor
