/-
  The program's pack: how a reader reads a whole number, a Fix, a text, lists.
-/
import Derived.Test.YtahbpegjdmblaaaPpC
set_option linter.unusedVariables false
set_option linter.unusedSimpArgs false
namespace Go.Proofs.Ytahbpegjdmblaaa
open Go.RowKit

def AB (B : Nat) (x : List Nat) (v : Value) (w : World) : Prop := Bs w v x ∧ Ow B v
def AL (B : Nat) (x : List Int) (v : Value) (w : World) : Prop := Is w v x ∧ Ow B v
set_option maxRecDepth 100000 in
set_option maxHeartbeats 2000000 in
theorem whole_any (b : Nat) (F : Nat → Prop) (l : List Nat) (w : World) (h : Ro w b F l) :
    Calls Try.prog 48 #[.pointer (some ⟨b, 0, none⟩)] w fun e w' => EndR b F AI w (rI l) e w' := by
  have HR : Hid (Ro w b F l) := h
  cases hU : rU l with
  | error x =>
    have HU : Hid (rU l = .error x) := hU
    clear h hU
    go_enter Try.func48, Try.ntmps48
    go_wp2_with fail
    refine (count_any b F l w HR.out).mono ?_
    intro e w1 hE
    obtain ⟨hK, rfl, t, hR⟩ := hE.bad HU.out
    clear hE
    go_wp2
    exact ⟨rfl, EndR.mkBad (rI_no HU.out) ⟨hK, rfl, _, hR⟩⟩
  | ok z =>
    obtain ⟨n, t⟩ := z
    have HU : Hid (rU l = .ok (n, t)) := hU
    have hn := (en_rU h.yt hU).2
    have HI : Hid (rI l = .ok (ofC n, t)) := rI_ok hU
    clear h hU
    obtain ⟨q, hq⟩ : ∃ q, n / 2 = q := ⟨_, rfl⟩
    have hd1 : (n : Int) / 2 = (q : Int) := by omega
    have hw1 : IntKind.u64.wrap (q : Int) = (q : Int) := by rw [IntKind.wrap_u64]; omega
    have hw2 : IntKind.i64.wrap (q : Int) = (q : Int) := by rw [IntKind.wrap_i64]; omega
    have hand : bits .and .u64 (n : Int) 1 = ((n % 2 : Nat) : Int) := by
      have h := and64p n 1 hn (by omega)
      rw [Nat.and_one_is_mod] at h
      exact h
    by_cases hodd : n % 2 = 1
    · have hoI : ((n % 2 : Nat) : Int) = 1 := by omega
      have hx : IntKind.i64.wrap (-(q : Int) - 1) = -(q : Int) - 1 := by rw [IntKind.wrap_i64]; omega
      have hx3 : bits .xor .i64 (q : Int) (-1) = -(q : Int) - 1 := by
        have e : BitVec.ofInt 64 (-1 : Int) = BitVec.allOnes 64 := by decide
        show IntKind.i64.wrap ((BitVec.ofInt 64 (q : Int) ^^^ BitVec.ofInt 64 (-1 : Int)).toNat : Int) = _
        rw [e, BitVec.xor_allOnes, BitVec.toNat_not, BitVec.toNat_ofInt, IntKind.wrap_i64]
        omega
      have hx4 : bits .xor .i64 (-1) (q : Int) = -(q : Int) - 1 := by
        have e : BitVec.ofInt 64 (-1 : Int) = BitVec.allOnes 64 := by decide
        show IntKind.i64.wrap ((BitVec.ofInt 64 (-1 : Int) ^^^ BitVec.ofInt 64 (q : Int)).toNat : Int) = _
        rw [e, BitVec.xor_comm, BitVec.xor_allOnes, BitVec.toNat_not, BitVec.toNat_ofInt, IntKind.wrap_i64]
        omega
      have HO : Hid (ofC n = -(q : Int) - 1) := by
        show _ = _
        unfold ofC
        rw [if_pos hodd, hq]
      rw [hodd] at hand
      clear hq hodd hoI
      go_enter Try.func48, Try.ntmps48
      go_wp2_with fail
      refine (count_any b F l w HR.out).mono ?_
      intro e w1 hE
      obtain ⟨hK, v, rfl, rfl, hR⟩ := hE.good HU.out
      have HX : Hid (Kp (fun i => i = b) w w1 ∧ Ro w1 b F t) := ⟨hK, hR⟩
      clear hE hK hR
      go_wp2
      go_ret
      refine EndR.mkGood HI.out ⟨HX.out.1, _, rfl, ?_, HX.out.2⟩
      show _ = _
      rw [HO.out]
      rfl
    · have hodd0 : n % 2 = 0 := by omega
      have HO : Hid (ofC n = (q : Int)) := by
        show _ = _
        unfold ofC
        rw [if_neg hodd, hq]
      rw [hodd0] at hand
      clear hq hodd hodd0
      go_enter Try.func48, Try.ntmps48
      go_wp2_with fail
      refine (count_any b F l w HR.out).mono ?_
      intro e w1 hE
      obtain ⟨hK, v, rfl, rfl, hR⟩ := hE.good HU.out
      have HX : Hid (Kp (fun i => i = b) w w1 ∧ Ro w1 b F t) := ⟨hK, hR⟩
      clear hE hK hR
      go_wp2
      go_ret
      refine EndR.mkGood HI.out ⟨HX.out.1, _, rfl, ?_, HX.out.2⟩
      show _ = _
      rw [HO.out]
      rfl
theorem deN_snoc : ∀ (l : List Nat) (c : Nat), deN (l ++ [c]) = deN l + c * 256 ^ l.length := by
  intro l
  induction l with
  | nil => intro c; simp [deN]
  | cons d l ih =>
    intro c
    show d + 256 * deN (l ++ [c]) = d + 256 * deN l + c * 256 ^ (l.length + 1)
    rw [ih c, Nat.pow_succ, Nat.mul_add, ← Nat.add_assoc]
    congr 1
    rw [Nat.mul_comm (256 ^ l.length) 256, ← Nat.mul_assoc, ← Nat.mul_assoc, Nat.mul_comm c 256]
theorem pow256 (i : Nat) : 256 ^ i = 2 ^ (8 * i) := by rw [Nat.pow_mul]
theorem take_snoc (l : List Nat) (i : Nat) (h : i < l.length) : l.take (i + 1) = l.take i ++ [l.getD i 0] := by
  rw [List.take_add_one]
  simp [List.getD, h]
/-- One byte more of a number. -/
theorem deN_step (l : List Nat) (hb : ∀ c ∈ l, c < 256) (i : Nat) (h : i < l.length) (hi : i < 8) : deN (l.take i) < 2 ^ (8 * i) ∧ deN (l.take (i + 1)) = deN (l.take i) + l.getD i 0 * 2 ^ (8 * i) ∧ deN (l.take (i + 1)) < 18446744073709551616 := by
  have hl : (l.take i).length = i := by rw [List.length_take]; omega
  have h1 := deN_lt (l.take i) (fun c hc => hb c (List.mem_of_mem_take hc))
  rw [hl, pow256] at h1
  have h2 : deN (l.take (i + 1)) = deN (l.take i) + l.getD i 0 * 2 ^ (8 * i) := by rw [take_snoc l i h, deN_snoc, hl, pow256]
  have h3 := deN_lt (l.take (i + 1)) (fun c hc => hb c (List.mem_of_mem_take hc))
  have hl2 : (l.take (i + 1)).length = i + 1 := by rw [List.length_take]; omega
  rw [hl2] at h3
  have h4 : 256 ^ (i + 1) ≤ 256 ^ 8 := Nat.pow_le_pow_right (by omega) (by omega)
  exact ⟨h1, h2, Nat.lt_of_lt_of_le h3 h4⟩
set_option maxRecDepth 100000 in
set_option maxHeartbeats 2000000 in
theorem fix_any (b : Nat) (F : Nat → Prop) (l : List Nat) (w : World) (h : Ro w b F l) :
    Calls Try.prog 50 #[.pointer (some ⟨b, 0, none⟩)] w fun e w' => EndR b F AI w (rF l) e w' := by
  have HR : Hid (Ro w b F l) := h
  by_cases hl : l.length < 8
  · have HL : Hid (l.length < 8) := hl
    clear h hl
    go_enter Try.func50, Try.ntmps50
    go_wp2_with fail
    refine (take_lack b 8 F l w HR.out HL.out (by omega)).mono ?_
    rintro e w1 ⟨rfl, rfl⟩
    go_wp2
    exact ⟨rfl, EndR.mkBad (rF_no HL.out) ⟨Kp.refl _ _, rfl, _, HR.out⟩⟩
  · have HF : Hid (rF l = .ok (s64 (deN (l.take 8)), l.drop 8)) := rF_ok (by omega)
    have HY : Hid (∀ c ∈ l.take 8, c < 256) := fun c hc => h.yt c (List.mem_of_mem_take hc)
    have HL : Hid ((l.take 8).length = 8) := by show _ = _; rw [List.length_take]; omega
    have HL8 : Hid (8 ≤ l.length) := by show _ ≤ _; omega
    clear h hl
    go_enter Try.func50, Try.ntmps50
    go_wp2_with fail
    refine (take_some b 8 F l w HR.out HL8.out).mono ?_
    rintro e w1 ⟨v1, rfl, hb1, -, hR1, hK1⟩
    have HX : Hid (Kp (fun i => i = b) w w1 ∧ Ro w1 b F (l.drop 8)) := ⟨hK1, hR1⟩
    clear hR1 hK1
    generalize l.take 8 = t at *
    have HB1 : Hid (Bs w1 v1 t) := hb1
    obtain ⟨g, o, cap, e1, -⟩ := hb1.at 0 (by rw [HL.out]; omega)
    rw [HL.out] at e1
    subst e1
    clear hb1
    go_upto_region 3 with fail
    go_loopw [3, 9] (fun s3 s9 wr => ∃ i a : Nat, i ≤ 8 ∧ wr = w1 ∧ s3 = .int .u64 ((a : Nat) : Int) ∧ s9 = .int .i64 ((i : Nat) : Int) ∧ Hid (a = deN (t.take i)) ∧ a < 18446744073709551616) (fun _ s9 _ => 8 - (intOf s9).toNat)
    case atStart => exact ⟨0, 0, by omega, rfl, rfl, rfl, rfl, by omega⟩
    case round =>
      obtain ⟨i, a, hi, rfl, rfl, rfl, HA, ha⟩ := hrel
      by_cases hi8 : i < 8
      · have hiI : (i : Int) < 8 := by omega
        obtain ⟨d1, d2, d3⟩ := deN_step t HY.out i (by rw [HL.out]; omega) hi8
        have hc := getD_byte HY.out i
        obtain ⟨g2, o2, e3, c1⟩ := HB1.out.cel i (by rw [HL.out]; omega)
        cases e3
        generalize t.getD i 0 = c at *
        obtain ⟨p, hp⟩ : ∃ p, 8 * i = p := ⟨_, rfl⟩
        rw [hp] at d1 d2
        obtain ⟨y, hy⟩ : ∃ y, c * 2 ^ p = y := ⟨_, rfl⟩
        obtain ⟨s, hs⟩ : ∃ s, deN (t.take (i + 1)) = s := ⟨_, rfl⟩
        rw [← HA.out] at d1 d2
        have HS : Hid (s = deN (t.take (i + 1))) := hs.symm
        rw [hs] at d2 d3
        have hmul : IntKind.i64.wrap (8 * (i : Int)) = (p : Int) := by rw [IntKind.wrap_i64]; omega
        have hw1 : IntKind.u64.wrap (c : Int) = (c : Int) := by rw [IntKind.wrap_u64]; omega
        have hyI : (c : Int) * 2 ^ p = (y : Int) := by rw [← hy, Int.natCast_mul, Int.natCast_pow]; rfl
        have hyb : y < 18446744073709551616 := by rw [hy] at d2; omega
        have hw2 : IntKind.u64.wrap (y : Int) = (y : Int) := by rw [IntKind.wrap_u64]; omega
        have hor : bits .or .u64 (a : Int) (y : Int) = (s : Int) := by
          rw [or64p a y ha hyb, ← hy, or_plus d1, d2]
        have hp0 : ¬ ((p : Int) < 0) := by omega
        have hp64 : p < 64 := by omega
        have hi1 : IntKind.i64.wrap ((i : Int) + 1) = ((i + 1 : Nat) : Int) := by rw [IntKind.wrap_i64]; omega
        clear hp hs d1 d2 hy
        go_wp2
        go_roundw
        case rel => exact ⟨i + 1, s, by omega, by first | rfl | trivial, rfl, rfl, HS, d3⟩
        case measure => simp only [intOf]; omega
      · have hiI : ¬ (i : Int) < 8 := by omega
        obtain rfl : i = 8 := by omega
        have hw : IntKind.i64.wrap (a : Int) = s64 a := by rw [IntKind.wrap_i64]; unfold s64; split <;> omega
        have HT : Hid (rF l = .ok (s64 a, l.drop 8)) := by
          show _ = _
          rw [HF.out, HA.out, List.take_of_length_le (by rw [HL.out]; omega)]
        generalize s64 a = x at *
        go_wp2
        go_ret
        exact EndR.mkGood HT.out ⟨HX.out.1, _, rfl, rfl, HX.out.2⟩
set_option maxRecDepth 100000 in
set_option maxHeartbeats 2000000 in
theorem text_any (b : Nat) (F : Nat → Prop) (l : List Nat) (w : World) (h : Ro w b F l) :
    Calls Try.prog 52 #[.pointer (some ⟨b, 0, none⟩)] w fun e w' => EndR b F (AB w.heap.size) w (rB l) e w' := by
  have HR : Hid (Ro w b F l) := h
  cases hU : rU l with
  | error x =>
    have HU : Hid (rU l = .error x) := hU
    clear h hU
    go_enter Try.func52, Try.ntmps52
    go_wp2_with fail
    refine (count_any b F l w HR.out).mono ?_
    intro e w1 hE
    obtain ⟨hK, rfl, t, hR⟩ := hE.bad HU.out
    clear hE
    go_wp2
    exact ⟨rfl, EndR.mkBad (rB_no HU.out) ⟨hK, rfl, _, hR⟩⟩
  | ok z =>
    obtain ⟨n, t⟩ := z
    have HU : Hid (rU l = .ok (n, t)) := hU
    have hn := (en_rU h.yt hU).2
    clear h hU
    go_enter Try.func52, Try.ntmps52
    go_wp2_with fail
    refine (count_any b F l w HR.out).mono ?_
    intro e w1 hE
    obtain ⟨hK, v, rfl, rfl, hR⟩ := hE.good HU.out
    have HX : Hid (Kp (fun i => i = b) w w1 ∧ Ro w1 b F t) := ⟨hK, hR⟩
    clear hE hK hR
    by_cases hlt : t.length < n
    · have HB : Hid (rB l = .error 120) := rB_lack HU.out hlt
      have HL : Hid (t.length < n) := hlt
      clear hlt
      go_wp2_with fail
      refine (take_lack b n F t w1 HX.out.2 HL.out hn).mono ?_
      rintro e w2 ⟨rfl, rfl⟩
      go_wp2
      exact ⟨rfl, EndR.mkBad HB.out ⟨HX.out.1, rfl, _, HX.out.2⟩⟩
    · have HB : Hid (rB l = .ok (t.take n, t.drop n)) := rB_ok HU.out (by omega)
      have HL : Hid (n ≤ t.length) := by show _ ≤ _; omega
      clear hlt
      go_wp2_with fail
      refine (take_some b n F t w1 HX.out.2 HL.out).mono ?_
      rintro e w2 ⟨v2, rfl, hb2, -, hR2, hK2⟩
      have HL2 : Hid ((t.take n).length ≤ 10000000) := by
        show _ ≤ _
        have := HX.out.2.le
        rw [List.length_take]
        omega
      generalize t.take n = T at *
      have HY : Hid (Kp (fun i => i = b) w w2 ∧ Ro w2 b F (t.drop n) ∧ Bs w2 v2 T) := ⟨HX.out.1.trans hK2 (fun i hi => Or.inl hi), hR2, hb2⟩
      obtain ⟨ad, cap, rfl, -, -⟩ := hb2.len
      clear hb2 hR2 hK2
      go_wp2_with fail
      refine (clone_any w2 _ _ HY.out.2.2 HL2.out).mono ?_
      rintro e w3 ⟨v3, rfl, hO3, hB3⟩
      have hsz := HY.out.1.size
      have HZ : Hid (Kp (fun i => i = b) w w3 ∧ Ro w3 b F (t.drop n) ∧ AB w.heap.size T v3 w3) := ⟨HY.out.1.grow hB3 hsz, HY.out.2.1.later hB3, hO3.bs.1, hO3.bs.2.low hsz⟩
      obtain ⟨ad3, cap3, rfl⟩ := hO3.sl
      clear hO3 hB3
      go_wp2
      go_ret
      exact EndR.mkGood HB.out ⟨HZ.out.1, _, rfl, HZ.out.2.2, HZ.out.2.1⟩
theorem make_I12 (n : Nat) (hn : n ≤ 10000000) (w : World) : (Instr.makeSlice 31 (.int .u64 (n : Int)) (.int .u64 (n : Int))).run Try.prog w = .ok (.slice (some ⟨w.heap.size, 0, none⟩) n n) (w.alloc (.cells (madeCells #[.int .i64 0] n) 3)) := by
  have hd : (Try.prog.info? 3).map (fun i => (i.zero, i.size, i.bytes)) = some (some (.int .i64 0), 1, 8) := by kernel_rfl
  obtain ⟨i0, hi, hz0, hz1, hz2⟩ := info_parts hd
  have h := run_make (P := Try.prog) w 31 3 i0 (.int .i64 0) Try.underlying31 hi hz0 .u64 .u64 (n : Int) (n : Int) (by omega) (by omega) (by rw [hz2]; omega) (by omega)
  rw [hz1, Nat.mul_one] at h
  exact h
set_option maxRecDepth 100000 in
set_option maxHeartbeats 2000000 in
theorem listI_any (b : Nat) (F : Nat → Prop) (l : List Nat) (w : World) (h : Ro w b F l) :
    Calls Try.prog 69 #[.pointer (some ⟨b, 0, none⟩), .int .i64 1, .func (.func 48) #[.pointer (some ⟨b, 0, none⟩)] #[]] w fun e w' => EndR b F (AL w.heap.size) w (rIs l) e w' := by
  have HR : Hid (Ro w b F l) := h
  cases hU : rU l with
  | error x =>
    have HU : Hid (rU l = .error x) := hU
    clear h hU
    go_enter Try.func69, Try.ntmps69
    go_wp2_with fail
    refine (count_any b F l w HR.out).mono ?_
    intro e w1 hE
    obtain ⟨hK, rfl, t, hR⟩ := hE.bad HU.out
    clear hE
    go_wp2
    exact ⟨rfl, EndR.mkBad (rIs_no HU.out) ⟨hK, rfl, _, hR⟩⟩
  | ok z =>
    obtain ⟨n, t⟩ := z
    have HU : Hid (rU l = .ok (n, t)) := hU
    have hn := (en_rU h.yt hU).2
    clear h hU
    go_enter Try.func69, Try.ntmps69
    go_wp2_with fail
    refine (count_any b F l w HR.out).mono ?_
    intro e w1 hE
    obtain ⟨hK, v, rfl, rfl, hR⟩ := hE.good HU.out
    have HX : Hid (Kp (fun i => i = b) w w1 ∧ Ro w1 b F t) := ⟨hK, hR⟩
    obtain ⟨vl, c1, hb1, -⟩ := hR.c1
    obtain ⟨ad, cap, rfl, -, -⟩ := hb1.len
    have hle := hR.le
    obtain ⟨m, hm⟩ : ∃ m, t.length = m := ⟨_, rfl⟩
    have HM : Hid (t.length = m) := hm
    rw [hm] at c1 hle
    clear hE hK hR hb1 hm
    obtain ⟨d, hd⟩ : ∃ d, m / 1 = d := ⟨_, rfl⟩
    have HD : Hid (m / 1 = d) := hd
    have hq : (m : Int).tdiv 1 = (d : Int) := by rw [Int.tdiv_eq_ediv_of_nonneg (by omega)]; omega
    have hq1 : IntKind.i64.wrap (d : Int) = (d : Int) := by rw [IntKind.wrap_i64]; omega
    have hq2 : IntKind.u64.wrap (d : Int) = (d : Int) := by rw [IntKind.wrap_u64]; omega
    have hdm : d ≤ m := by omega
    have hone : (m : Int) = (d : Int) := by omega
    clear hd
    by_cases hlt : d < n
    · have hltI : (d : Int) < (n : Int) := by omega
      have HB : Hid (rIs l = .error 120) := rIs_lack HU.out (by have := HM.out; have := HD.out; omega)
      go_wp2
      exact ⟨rfl, EndR.mkBad HB.out ⟨HX.out.1, rfl, _, HX.out.2⟩⟩
    · have hltI : ¬ (d : Int) < (n : Int) := by omega
      have HB : Hid (rIs l = rep rI 0 n t) := rIs_ok HU.out (by have := HM.out; have := HD.out; omega)
      have hn3 : n ≤ 10000000 := by omega
      have hmk := make_I12 n hn3 w1
      have HG : Hid (Rw w1.heap.size n (fun _ => .int .i64 0) (w1.alloc (.cells (madeCells #[.int .i64 0] n) 3))) := Rw.made _ _ _ _
      have HY : Hid (Kp (fun i => i = b) w (w1.alloc (.cells (madeCells #[.int .i64 0] n) 3)) ∧ Ro (w1.alloc (.cells (madeCells #[.int .i64 0] n) 3)) b F t) := ⟨HX.out.1.alloc _, HX.out.2.later (bel1 _ _)⟩
      have HS : Hid (w.heap.size ≤ w1.heap.size ∧ b < w1.heap.size ∧ (∀ k, F k → k < w1.heap.size) ∧ w1.heap.size < (w1.alloc (.cells (madeCells #[.int .i64 0] n) 3)).heap.size) := ⟨HX.out.1.size, HX.out.2.lt b HX.out.2.fb, HX.out.2.lt, by rw [World.size_alloc]; omega⟩
      obtain ⟨g, hg⟩ : ∃ g, w1.heap.size = g := ⟨_, rfl⟩
      rw [hg] at hmk HG HS
      clear HX
      go_upto_region 6 with fail
      generalize w1.alloc (.cells (madeCells #[.int .i64 0] n) 3) = w2 at *
      go_loopw [27] (fun s27 wr => ∃ (j : Nat) (u : List Nat), j ≤ n ∧ s27 = .int .i64 ((j : Nat) : Int) ∧ Hid (itS rI j (.ok t) = .ok u) ∧ Hid (Rw g n (fun k => .int .i64 ((itV rI 0 j (.ok t)).getD k 0)) wr) ∧ Hid (Kp (fun i => i = b) w wr ∧ Ro wr b F u ∧ g < wr.heap.size)) (fun s27 _ => n - (intOf s27).toNat)
      case atStart => exact ⟨0, t, by omega, rfl, rfl, HG.out.congr (fun k hk => by simp [itV]), HY.out.1, HY.out.2, HS.out.2.2.2⟩
      case round =>
        clear HG HY
        obtain ⟨j, u, hj, rfl, HI, HG, HY⟩ := hrel
        by_cases hjn : j < n
        · have hjI : (j : Int) < (n : Int) := by omega
          have hj1 : IntKind.i64.wrap ((j : Int) + 1) = ((j + 1 : Nat) : Int) := by rw [IntKind.wrap_i64]; omega
          cases hP : rI u with
          | error x =>
            have HP : Hid (rI u = .error x) := hP
            have HE : Hid (rIs l = .error x) := by
              show _ = _
              rw [HB.out]
              refine rep_no (itS_mono rI n (j + 1) x _ ?_ (by omega))
              show pn rI (itS rI j (.ok t)) = _
              rw [HI.out]
              exact pn_no hP
            clear hP
            go_wp2_with fail
            refine (whole_any b F u _ HY.out.2.1).mono ?_
            intro e w3 hE
            obtain ⟨hK, rfl, t3, hR⟩ := hE.bad HP.out
            have HZ : Hid (Kp (fun i => i = b) w w3 ∧ Ro w3 b F t3) := ⟨HY.out.1.trans hK (fun i hi => Or.inl hi), hR⟩
            clear hE hK hR
            go_wp2
            exact ⟨rfl, EndR.mkBad HE.out ⟨HZ.out.1, rfl, _, HZ.out.2⟩⟩
          | ok z =>
            obtain ⟨y, u2⟩ := z
            have HP : Hid (rI u = .ok (y, u2)) := hP
            have HI2 : Hid (itS rI (j + 1) (.ok t) = .ok u2) := by
              show pn rI (itS rI j (.ok t)) = _
              rw [HI.out]
              exact pn_ok hP
            have HV2 : Hid (itV rI 0 (j + 1) (.ok t) = itV rI 0 j (.ok t) ++ [y]) := by
              show itV rI 0 j (.ok t) ++ [pv rI 0 (itS rI j (.ok t))] = _
              rw [HI.out, pv_ok hP]
            clear hP
            go_wp2_with fail
            refine (whole_any b F u _ HY.out.2.1).mono ?_
            intro e w3 hE
            obtain ⟨hK, v3, rfl, rfl, hR⟩ := hE.good HP.out
            have hgb : ¬ g = b := by have := HS.out.2.1; omega
            have HG3 : Hid (Rw g n (fun k => .int .i64 ((itV rI 0 j (.ok t)).getD k 0)) w3) := HG.out.block (hK.block g HY.out.2.2 hgb)
            have HZ : Hid (Kp (fun i => i = b) w w3 ∧ Ro w3 b F u2 ∧ g < w3.heap.size) := ⟨HY.out.1.trans hK (fun i hi => Or.inl hi), hR, Nat.lt_of_lt_of_le HY.out.2.2 hK.size⟩
            have ca := HG3.out.c j hjn
            have fa := HG3.out.f j hjn
            generalize (itV rI 0 j (.ok t)).getD j 0 = old at ca
            clear hE hK hR
            go_wp2
            go_roundw
            case rel =>
              refine ⟨j + 1, u2, by omega, rfl, HI2, (HG3.out.set j (.int .i64 y)).congr (fun k hk => ?_), HZ.out.1.set (Or.inr (by have := HS.out.1; dsimp only; omega)) _, HZ.out.2.1.kept (fun k hk => Below.heap_setCell _ _ _ _ (by have := HS.out.2.2.1 k hk; dsimp only; omega)) (by rw [World.size_setCell]; exact Nat.le_refl _), by rw [World.size_setCell]; exact HZ.out.2.2⟩
              rw [HV2.out]
              have hlen := itV_len rI 0 j (.ok t)
              by_cases e : k = j
              · subst e
                simp [List.getD, List.getElem?_append, hlen]
              · simp only [if_neg e]
                by_cases q : k < j
                · simp [List.getD, List.getElem?_append, hlen, q]
                · have q2 : ¬ k - j = 0 := by omega
                  have q3 : [y][k - j]? = none := by
                    rw [List.getElem?_eq_none]
                    simp
                    omega
                  have q4 : (itV rI 0 j (.ok t))[k]? = none := by
                    rw [List.getElem?_eq_none]
                    omega
                  simp [List.getD, List.getElem?_append, hlen, q, q3, q4]
            case measure => simp only [intOf]; omega
        · have hjI : ¬ (j : Int) < (n : Int) := by omega
          obtain rfl : j = n := by omega
          have HE : Hid (rIs l = .ok (itV rI 0 j (.ok t), u)) := by
            show _ = _
            rw [HB.out]
            exact rep_ok HI.out
          have HL : Hid (AL w.heap.size (itV rI 0 j (.ok t)) (.slice (some ⟨g, 0, none⟩) j j) wr) := by
            refine ⟨?_, fun a n' cap' e _ => by cases e; exact HS.out.1⟩
            have := HG.out.ls 0 j j (by omega) (Nat.le_refl _) (by unfold maxLen; omega)
            show Ls wr _ (itV rI 0 j (.ok t)).length _
            rw [itV_len]
            refine this.congr (fun k hk => ?_)
            simp [i6f]
          go_wp2
          go_ret
          exact EndR.mkGood HE.out ⟨HY.out.1, _, rfl, HL.out, HY.out.2.1⟩
set_option maxRecDepth 100000 in
set_option maxHeartbeats 2000000 in
theorem wholes_any (b : Nat) (F : Nat → Prop) (l : List Nat) (w : World) (h : Ro w b F l) :
    Calls Try.prog 54 #[.pointer (some ⟨b, 0, none⟩)] w fun e w' => EndR b F (AL w.heap.size) w (rIs l) e w' := by
  have hmf : ∀ (fn : Fn) (first cap : Array Value) (w : World), (Instr.makeFunc fn first cap).run Try.prog w = .ok (.func fn first cap) w := fun _ _ _ _ => rfl
  have HR : Hid (Ro w b F l) := h
  clear h
  cases hr : rIs l with
  | error x =>
    have HU : Hid (rIs l = .error x) := hr
    clear hr
    go_enter Try.func54, Try.ntmps54
    go_wp2_with fail
    refine (listI_any b F l w HR.out).mono ?_
    intro e w1 hE
    obtain ⟨hK, rfl, t, hR⟩ := hE.bad HU.out
    have HZ : Hid (Kp (fun i => i = b) w w1 ∧ Ro w1 b F t) := ⟨hK, hR⟩
    clear hE hK hR
    go_wp2
    exact ⟨rfl, EndR.mkBad rfl ⟨HZ.out.1, rfl, _, HZ.out.2⟩⟩
  | ok z =>
    obtain ⟨x, t⟩ := z
    have HU : Hid (rIs l = .ok (x, t)) := hr
    clear hr
    go_enter Try.func54, Try.ntmps54
    go_wp2_with fail
    refine (listI_any b F l w HR.out).mono ?_
    intro e w1 hE
    obtain ⟨hK, v, rfl, hA, hR⟩ := hE.good HU.out
    have HZ : Hid (Kp (fun i => i = b) w w1 ∧ Ro w1 b F t ∧ AL w.heap.size x v w1) := ⟨hK, hR, hA⟩
    obtain ⟨ad, cap, rfl, -, -⟩ := hA.1.len
    clear hE hK hR hA
    go_wp2
    go_ret
    exact EndR.mkGood rfl ⟨HZ.out.1, _, rfl, HZ.out.2.2, HZ.out.2.1⟩
theorem make_F12 (n : Nat) (hn : n ≤ 10000000) (w : World) : (Instr.makeSlice 32 (.int .u64 (n : Int)) (.int .u64 (n : Int))).run Try.prog w = .ok (.slice (some ⟨w.heap.size, 0, none⟩) n n) (w.alloc (.cells (madeCells #[.int .i64 0] n) 30)) := by
  have hd : (Try.prog.info? 30).map (fun i => (i.zero, i.size, i.bytes)) = some (some (.int .i64 0), 1, 8) := by kernel_rfl
  obtain ⟨i0, hi, hz0, hz1, hz2⟩ := info_parts hd
  have h := run_make (P := Try.prog) w 32 30 i0 (.int .i64 0) Try.underlying32 hi hz0 .u64 .u64 (n : Int) (n : Int) (by omega) (by omega) (by rw [hz2]; omega) (by omega)
  rw [hz1, Nat.mul_one] at h
  exact h
set_option maxRecDepth 100000 in
set_option maxHeartbeats 2000000 in
theorem listF_any (b : Nat) (F : Nat → Prop) (l : List Nat) (w : World) (h : Ro w b F l) :
    Calls Try.prog 71 #[.pointer (some ⟨b, 0, none⟩), .int .i64 8, .func (.func 50) #[.pointer (some ⟨b, 0, none⟩)] #[]] w fun e w' => EndR b F (AL w.heap.size) w (rFs l) e w' := by
  have HR : Hid (Ro w b F l) := h
  cases hU : rU l with
  | error x =>
    have HU : Hid (rU l = .error x) := hU
    clear h hU
    go_enter Try.func71, Try.ntmps71
    go_wp2_with fail
    refine (count_any b F l w HR.out).mono ?_
    intro e w1 hE
    obtain ⟨hK, rfl, t, hR⟩ := hE.bad HU.out
    clear hE
    go_wp2
    exact ⟨rfl, EndR.mkBad (rFs_no HU.out) ⟨hK, rfl, _, hR⟩⟩
  | ok z =>
    obtain ⟨n, t⟩ := z
    have HU : Hid (rU l = .ok (n, t)) := hU
    have hn := (en_rU h.yt hU).2
    clear h hU
    go_enter Try.func71, Try.ntmps71
    go_wp2_with fail
    refine (count_any b F l w HR.out).mono ?_
    intro e w1 hE
    obtain ⟨hK, v, rfl, rfl, hR⟩ := hE.good HU.out
    have HX : Hid (Kp (fun i => i = b) w w1 ∧ Ro w1 b F t) := ⟨hK, hR⟩
    obtain ⟨vl, c1, hb1, -⟩ := hR.c1
    obtain ⟨ad, cap, rfl, -, -⟩ := hb1.len
    have hle := hR.le
    obtain ⟨m, hm⟩ : ∃ m, t.length = m := ⟨_, rfl⟩
    have HM : Hid (t.length = m) := hm
    rw [hm] at c1 hle
    clear hE hK hR hb1 hm
    obtain ⟨d, hd⟩ : ∃ d, m / 8 = d := ⟨_, rfl⟩
    have HD : Hid (m / 8 = d) := hd
    have hq : (m : Int).tdiv 8 = (d : Int) := by rw [Int.tdiv_eq_ediv_of_nonneg (by omega)]; omega
    have hq1 : IntKind.i64.wrap (d : Int) = (d : Int) := by rw [IntKind.wrap_i64]; omega
    have hq2 : IntKind.u64.wrap (d : Int) = (d : Int) := by rw [IntKind.wrap_u64]; omega
    have hdm : d ≤ m := by omega
    clear hd
    by_cases hlt : d < n
    · have hltI : (d : Int) < (n : Int) := by omega
      have HB : Hid (rFs l = .error 120) := rFs_lack HU.out (by have := HM.out; have := HD.out; omega)
      go_wp2
      exact ⟨rfl, EndR.mkBad HB.out ⟨HX.out.1, rfl, _, HX.out.2⟩⟩
    · have hltI : ¬ (d : Int) < (n : Int) := by omega
      have HB : Hid (rFs l = rep rF 0 n t) := rFs_ok HU.out (by have := HM.out; have := HD.out; omega)
      have hn3 : n ≤ 10000000 := by omega
      have hmk := make_F12 n hn3 w1
      have HG : Hid (Rw w1.heap.size n (fun _ => .int .i64 0) (w1.alloc (.cells (madeCells #[.int .i64 0] n) 30))) := Rw.made _ _ _ _
      have HY : Hid (Kp (fun i => i = b) w (w1.alloc (.cells (madeCells #[.int .i64 0] n) 30)) ∧ Ro (w1.alloc (.cells (madeCells #[.int .i64 0] n) 30)) b F t) := ⟨HX.out.1.alloc _, HX.out.2.later (bel1 _ _)⟩
      have HS : Hid (w.heap.size ≤ w1.heap.size ∧ b < w1.heap.size ∧ (∀ k, F k → k < w1.heap.size) ∧ w1.heap.size < (w1.alloc (.cells (madeCells #[.int .i64 0] n) 30)).heap.size) := ⟨HX.out.1.size, HX.out.2.lt b HX.out.2.fb, HX.out.2.lt, by rw [World.size_alloc]; omega⟩
      obtain ⟨g, hg⟩ : ∃ g, w1.heap.size = g := ⟨_, rfl⟩
      rw [hg] at hmk HG HS
      clear HX
      go_upto_region 6 with fail
      generalize w1.alloc (.cells (madeCells #[.int .i64 0] n) 30) = w2 at *
      go_loopw [27] (fun s27 wr => ∃ (j : Nat) (u : List Nat), j ≤ n ∧ s27 = .int .i64 ((j : Nat) : Int) ∧ Hid (itS rF j (.ok t) = .ok u) ∧ Hid (Rw g n (fun k => .int .i64 ((itV rF 0 j (.ok t)).getD k 0)) wr) ∧ Hid (Kp (fun i => i = b) w wr ∧ Ro wr b F u ∧ g < wr.heap.size)) (fun s27 _ => n - (intOf s27).toNat)
      case atStart => exact ⟨0, t, by omega, rfl, rfl, HG.out.congr (fun k hk => by simp [itV]), HY.out.1, HY.out.2, HS.out.2.2.2⟩
      case round =>
        clear HG HY
        obtain ⟨j, u, hj, rfl, HI, HG, HY⟩ := hrel
        by_cases hjn : j < n
        · have hjI : (j : Int) < (n : Int) := by omega
          have hj1 : IntKind.i64.wrap ((j : Int) + 1) = ((j + 1 : Nat) : Int) := by rw [IntKind.wrap_i64]; omega
          cases hP : rF u with
          | error x =>
            have HP : Hid (rF u = .error x) := hP
            have HE : Hid (rFs l = .error x) := by
              show _ = _
              rw [HB.out]
              refine rep_no (itS_mono rF n (j + 1) x _ ?_ (by omega))
              show pn rF (itS rF j (.ok t)) = _
              rw [HI.out]
              exact pn_no hP
            clear hP
            go_wp2_with fail
            refine (fix_any b F u _ HY.out.2.1).mono ?_
            intro e w3 hE
            obtain ⟨hK, rfl, t3, hR⟩ := hE.bad HP.out
            have HZ : Hid (Kp (fun i => i = b) w w3 ∧ Ro w3 b F t3) := ⟨HY.out.1.trans hK (fun i hi => Or.inl hi), hR⟩
            clear hE hK hR
            go_wp2
            exact ⟨rfl, EndR.mkBad HE.out ⟨HZ.out.1, rfl, _, HZ.out.2⟩⟩
          | ok z =>
            obtain ⟨y, u2⟩ := z
            have HP : Hid (rF u = .ok (y, u2)) := hP
            have HI2 : Hid (itS rF (j + 1) (.ok t) = .ok u2) := by
              show pn rF (itS rF j (.ok t)) = _
              rw [HI.out]
              exact pn_ok hP
            have HV2 : Hid (itV rF 0 (j + 1) (.ok t) = itV rF 0 j (.ok t) ++ [y]) := by
              show itV rF 0 j (.ok t) ++ [pv rF 0 (itS rF j (.ok t))] = _
              rw [HI.out, pv_ok hP]
            clear hP
            go_wp2_with fail
            refine (fix_any b F u _ HY.out.2.1).mono ?_
            intro e w3 hE
            obtain ⟨hK, v3, rfl, rfl, hR⟩ := hE.good HP.out
            have hgb : ¬ g = b := by have := HS.out.2.1; omega
            have HG3 : Hid (Rw g n (fun k => .int .i64 ((itV rF 0 j (.ok t)).getD k 0)) w3) := HG.out.block (hK.block g HY.out.2.2 hgb)
            have HZ : Hid (Kp (fun i => i = b) w w3 ∧ Ro w3 b F u2 ∧ g < w3.heap.size) := ⟨HY.out.1.trans hK (fun i hi => Or.inl hi), hR, Nat.lt_of_lt_of_le HY.out.2.2 hK.size⟩
            have ca := HG3.out.c j hjn
            have fa := HG3.out.f j hjn
            generalize (itV rF 0 j (.ok t)).getD j 0 = old at ca
            clear hE hK hR
            go_wp2
            go_roundw
            case rel =>
              refine ⟨j + 1, u2, by omega, rfl, HI2, (HG3.out.set j (.int .i64 y)).congr (fun k hk => ?_), HZ.out.1.set (Or.inr (by have := HS.out.1; dsimp only; omega)) _, HZ.out.2.1.kept (fun k hk => Below.heap_setCell _ _ _ _ (by have := HS.out.2.2.1 k hk; dsimp only; omega)) (by rw [World.size_setCell]; exact Nat.le_refl _), by rw [World.size_setCell]; exact HZ.out.2.2⟩
              rw [HV2.out]
              have hlen := itV_len rF 0 j (.ok t)
              by_cases e : k = j
              · subst e
                simp [List.getD, List.getElem?_append, hlen]
              · simp only [if_neg e]
                by_cases q : k < j
                · simp [List.getD, List.getElem?_append, hlen, q]
                · have q2 : ¬ k - j = 0 := by omega
                  have q3 : [y][k - j]? = none := by
                    rw [List.getElem?_eq_none]
                    simp
                    omega
                  have q4 : (itV rF 0 j (.ok t))[k]? = none := by
                    rw [List.getElem?_eq_none]
                    omega
                  simp [List.getD, List.getElem?_append, hlen, q, q3, q4]
            case measure => simp only [intOf]; omega
        · have hjI : ¬ (j : Int) < (n : Int) := by omega
          obtain rfl : j = n := by omega
          have HE : Hid (rFs l = .ok (itV rF 0 j (.ok t), u)) := by
            show _ = _
            rw [HB.out]
            exact rep_ok HI.out
          have HL : Hid (AL w.heap.size (itV rF 0 j (.ok t)) (.slice (some ⟨g, 0, none⟩) j j) wr) := by
            refine ⟨?_, fun a n' cap' e _ => by cases e; exact HS.out.1⟩
            have := HG.out.ls 0 j j (by omega) (Nat.le_refl _) (by unfold maxLen; omega)
            show Ls wr _ (itV rF 0 j (.ok t)).length _
            rw [itV_len]
            refine this.congr (fun k hk => ?_)
            simp [i6f]
          go_wp2
          go_ret
          exact EndR.mkGood HE.out ⟨HY.out.1, _, rfl, HL.out, HY.out.2.1⟩
set_option maxRecDepth 100000 in
set_option maxHeartbeats 2000000 in
theorem fixes_any (b : Nat) (F : Nat → Prop) (l : List Nat) (w : World) (h : Ro w b F l) :
    Calls Try.prog 56 #[.pointer (some ⟨b, 0, none⟩)] w fun e w' => EndR b F (AL w.heap.size) w (rFs l) e w' := by
  have hmf : ∀ (fn : Fn) (first cap : Array Value) (w : World), (Instr.makeFunc fn first cap).run Try.prog w = .ok (.func fn first cap) w := fun _ _ _ _ => rfl
  have HR : Hid (Ro w b F l) := h
  clear h
  cases hr : rFs l with
  | error x =>
    have HU : Hid (rFs l = .error x) := hr
    clear hr
    go_enter Try.func56, Try.ntmps56
    go_wp2_with fail
    refine (listF_any b F l w HR.out).mono ?_
    intro e w1 hE
    obtain ⟨hK, rfl, t, hR⟩ := hE.bad HU.out
    have HZ : Hid (Kp (fun i => i = b) w w1 ∧ Ro w1 b F t) := ⟨hK, hR⟩
    clear hE hK hR
    go_wp2
    exact ⟨rfl, EndR.mkBad rfl ⟨HZ.out.1, rfl, _, HZ.out.2⟩⟩
  | ok z =>
    obtain ⟨x, t⟩ := z
    have HU : Hid (rFs l = .ok (x, t)) := hr
    clear hr
    go_enter Try.func56, Try.ntmps56
    go_wp2_with fail
    refine (listF_any b F l w HR.out).mono ?_
    intro e w1 hE
    obtain ⟨hK, v, rfl, hA, hR⟩ := hE.good HU.out
    have HZ : Hid (Kp (fun i => i = b) w w1 ∧ Ro w1 b F t ∧ AL w.heap.size x v w1) := ⟨hK, hR, hA⟩
    obtain ⟨ad, cap, rfl, -, -⟩ := hA.1.len
    clear hE hK hR hA
    go_wp2
    go_ret
    exact EndR.mkGood rfl ⟨HZ.out.1, _, rfl, HZ.out.2.2, HZ.out.2.1⟩
end Go.Proofs.Ytahbpegjdmblaaa
