/-
  The law PackWrites.
-/
import Derived.Test.YtahbpegjdmblaaaPkLawD
set_option linter.unusedVariables false
set_option linter.unusedSimpArgs false
namespace Go.Proofs.Ytahbpegjdmblaaa
open Go.RowKit

theorem putT_ok {t : Th} {L : List Nat} (h : L.length + t.form.length ≤ 1048576) : putT t (.ok L) = .ok (L ++ t.form) := by
  by_cases q : 1 ≤ t.k ∧ t.k ≤ 6
  · rw [putT_in q.1 q.2, pt_ok h]
  · rw [putT_out q, form_0 (by omega), List.append_nil]
theorem putT_err (t : Th) (e : Nat) : putT t (.error e) = .error e := by
  unfold putT
  split <;> rfl
theorem dnE_ok (l : List Nat) : dnE (.ok l) = 0 := rfl
theorem dnV_ok (l : List Nat) : dnV (.ok l) = l := rfl
theorem dnE_err (e : Nat) : dnE (.error e) = e := rfl
theorem fms_len {ts : List Th} (hg : ∀ t ∈ ts, t.good) (hf : fewB ts = true) (j : Nat) : (fms (ts.take j)).length ≤ 40400 := by
  have hF := few_yes hf
  have h1 := forms_len (ts.take j) (fun t ht => form_len (hg t (List.mem_of_mem_take ht)) (hF.2 t (List.mem_of_mem_take ht)))
  rw [List.length_take] at h1
  have := hF.1
  omega
/-- What the loops over things know of one. -/
structure Tk (w : World) (t : Th) (vb vl vf : Value) : Prop where
  b : Bs w vb t.b
  l : Is w vl t.l
  f : Is w vf t.f
  g : t.good
  s : t.b.length ≤ 300 ∧ t.l.length ≤ 100 ∧ t.f.length ≤ 100
theorem Tk.nf {w : World} {t : Th} {vb vl vf : Value} (h : Tk w t vb vl vf) {F : Nat → Prop} (hF : ∀ i, F i → w.heap.size ≤ i) : Nf F vb ∧ Nf F vl ∧ Nf F vf := ⟨Ls.nf h.b hF, Ls.nf h.l hF, Ls.nf h.f hF⟩
/-- A thing of the argument is written, whatever has come to be since. -/
theorem Tk.write {w W : World} {t : Th} {vb vl vf : Value} (h : Tk w t vb vl vf) (V : Pack1) (p : Value) (F : Nat → Prop) (s : Sta) (hb : Below w.heap.size w W) (hF : ∀ i, F i → w.heap.size ≤ i) (hW : V.Wt W p F s) :
    Calls Try.prog 11 #[.agg #[.int .i64 t.k, .int .u64 (t.u : Int), .int .i64 t.n, .int .i64 t.x, vb, vl, vf], p] W fun e w' => e = .returned (.tuple #[]) ∧ Af V.Wt p F (putT t s) W w' := by
  have hn := h.nf hF
  have hs := h.s
  exact write12 V t h.g ⟨by omega, by omega, by omega⟩ vb vl vf p F s W (h.b.later hb) (h.l.later hb) (h.f.later hb) hn.1 hn.2.1 hn.2.2 hW
theorem Ts.take {w : World} {ad : Option Addr} {n cap : Nat} {ts : List Th} (h : Ts w (.slice ad n cap) ts) (hg : ∀ t ∈ ts, t.good) (hf : fewB ts = true) (j : Nat) (hj : j < ts.length) : ∃ (b o : Nat) (a1 a2 a3 : Option Addr) (p1 p2 p3 : Nat), ad = some ⟨b, o, none⟩ ∧ Tc w b (o + j * 7) (ts.getD j th0) (.slice a1 (ts.getD j th0).b.length p1) (.slice a2 (ts.getD j th0).l.length p2) (.slice a3 (ts.getD j th0).f.length p3) ∧ Tk w (ts.getD j th0) (.slice a1 (ts.getD j th0).b.length p1) (.slice a2 (ts.getD j th0).l.length p2) (.slice a3 (ts.getD j th0).f.length p3) := by
  obtain ⟨b, o, vb, vl, vf, e, hc⟩ := h.cel j hj
  obtain ⟨a1, p1, rfl, -, -⟩ := hc.b.len
  obtain ⟨a2, p2, rfl, -, -⟩ := hc.l.len
  obtain ⟨a3, p3, rfl, -, -⟩ := hc.f.len
  have hm := getT_mem hj
  exact ⟨b, o, a1, a2, a3, p1, p2, p3, e, hc, ⟨hc.b, hc.l, hc.f, hg _ hm, (few_yes hf).2 _ hm⟩⟩
set_option maxRecDepth 100000 in
set_option maxHeartbeats 8000000 in
theorem packWrites_any (V : Pack1) (v : Value) (ts : List Th) (hg : ∀ t ∈ ts, t.good) (w : World) (h : Ts w v ts) :
    Calls Try.prog 3 #[v] w fun e w' => e = .returned (.bool true) ∧ Below w.heap.size w w' := by
  have HT : Hid (Ts w v ts) := h
  have HG : Hid (∀ t ∈ ts, t.good) := hg
  obtain ⟨ad, cap, rfl, k1, k2⟩ := h.len
  unfold maxLen at k2
  obtain ⟨n, hn⟩ : ∃ n, ts.length = n := ⟨_, rfl⟩
  have HN : Hid (ts.length = n) := hn
  rw [hn] at k1 HT ⊢
  clear h hn hg
  go_enter Try.func3, Try.ntmps3
  go_wp2_with fail
  refine (awake12 V w).mono ?_
  rintro e w1 ⟨rfl, hb1⟩
  have HB1 : Hid (Below w.heap.size w w1) := hb1
  clear hb1
  go_wp2_with fail
  refine (few12 _ ts w1 (HT.out.later HB1.out)).mono ?_
  rintro e w2 ⟨rfl, hb2⟩
  have HB2 : Hid (Below w.heap.size w w2) := bchain HB1.out hb2
  clear hb2 HB1
  cases hf : fewB ts with
  | false =>
    go_wp2
    go_ret
    exact ⟨rfl, HB2.out⟩
  | true =>
    have HF : Hid (fewB ts = true) := hf
    have HW0 : Hid (V.Wt (w2.alloc (.cells #[.slice none 0 0, .bool false] 28)) (.pointer (some ⟨w2.heap.size, 0, none⟩)) (· = w2.heap.size) (.ok (fms (ts.take 0)))) := V.wz w2
    have HB3 : Hid (Below w.heap.size w (w2.alloc (.cells #[.slice none 0 0, .bool false] 28))) := HB2.out.alloc HB2.out.size _
    have hs2 := HB2.out.size
    clear hf HB2
    go_upto_region 8 with fail
    go_loopw [22] (fun s22 wr => ∃ j : Nat, j ≤ n ∧ s22 = .int .i64 (j : Int) ∧ Hid (∃ F : Nat → Prop, V.Wt wr (.pointer (some ⟨w2.heap.size, 0, none⟩)) F (.ok (fms (ts.take j))) ∧ (∀ i, F i → w.heap.size ≤ i) ∧ Below w.heap.size w wr)) (fun s22 _ => n - (intOf s22).toNat)
    case atStart => exact ⟨0, by omega, rfl, _, HW0.out, fun i hi => by omega, HB3.out⟩
    case round =>
      clear HW0 HB3
      obtain ⟨j, hj, rfl, HW⟩ := hrel
      obtain ⟨F, hW, hF, hB⟩ := HW.out
      by_cases hlt : j < n
      · have hjI : (j : Int) < (n : Int) := by omega
        have hN := HN.out
        obtain ⟨b, o, a1, a2, a3, p1, p2, p3, rfl, hc, hk⟩ := HT.out.take HG.out HF.out j (by omega)
        have HS : Hid (fms (ts.take (j + 1)) = fms (ts.take j) ++ (ts.getD j th0).form) := forms_take (by omega)
        have HLn : Hid ((fms (ts.take j)).length ≤ 40400 ∧ (ts.getD j th0).form.length ≤ 1010) := ⟨fms_len HG.out HF.out j, form_len hk.g hk.s⟩
        have hd := hc.later hB
        have d0 := hd.c0
        have d1 := hd.c1
        have d2 := hd.c2
        have d3 := hd.c3
        have d4 := hd.c4
        have d5 := hd.c5
        have d6 := hd.c6
        generalize ts.getD j th0 = t at *
        have HK := hidI hk
        have HX : Hid (B7 wr.heap.size (.int .i64 t.k) (.int .u64 (t.u : Int)) (.int .i64 t.n) (.int .i64 t.x) (.slice a1 t.b.length p1) (.slice a2 t.l.length p2) (.slice a3 t.f.length p3) (wr.alloc (.cells #[.int .i64 t.k, .int .u64 (t.u : Int), .int .i64 t.n, .int .i64 t.x, .slice a1 t.b.length p1, .slice a2 t.l.length p2, .slice a3 t.f.length p3] 34))) := B7.new _ _ _ _ _ _ _ _ _
        have HWB : Hid (V.Wt wr (.pointer (some ⟨w2.heap.size, 0, none⟩)) F (.ok (fms (ts.take j))) ∧ (∀ i, F i → w.heap.size ≤ i) ∧ Below w.heap.size w wr) := ⟨hW, hF, hB⟩
        clear hc hk hd hW hF hB HW hN
        go_wp2_with fail
        refine (HK.out.write V _ F _ (HWB.out.2.2.alloc HWB.out.2.2.size _) HWB.out.2.1 (V.wl HWB.out.1 (bel1 _ _))).mono ?_
        rintro e w4 ⟨rfl, F4, hW4, hG4, hK4⟩
        have hx4 := HX.out.kept hK4 (fun q => Nat.lt_irrefl _ (V.wtB HWB.out.1 _ q))
        have HW4 : Hid (V.Wt w4 (.pointer (some ⟨w2.heap.size, 0, none⟩)) F4 (.ok (fms (ts.take (j + 1)))) ∧ (∀ i, F4 i → w.heap.size ≤ i) ∧ Below w.heap.size w w4) := by
          rw [putT_ok (by have := HLn.out; omega), ← HS.out] at hW4
          have hb := HWB.out.2.2.alloc HWB.out.2.2.size (.cells #[.int .i64 t.k, .int .u64 (t.u : Int), .int .i64 t.n, .int .i64 t.x, .slice a1 t.b.length p1, .slice a2 t.l.length p2, .slice a3 t.f.length p3] 34)
          exact ⟨hW4, hG4.up HWB.out.2.1 hb.size, hK4.next hb HWB.out.2.1 hb.size⟩
        have x0 := hx4.c0
        have x1 := hx4.c1
        have x2 := hx4.c2
        have x3 := hx4.c3
        have x4 := hx4.c4
        have x5 := hx4.c5
        have x6 := hx4.c6
        clear hW4 hG4 hK4 hx4 HX HWB d0 d1 d2 d3 d4 d5 d6
        go_wp2_with fail
        refine (HK.out.write V _ (fun _ => False) _ HW4.out.2.2 (fun i hi => hi.elim) (V.wnil w4)).mono ?_
        rintro e w5 ⟨rfl, F5, -, -, hK5⟩
        have HW5 : Hid (∃ F : Nat → Prop, V.Wt w5 (.pointer (some ⟨w2.heap.size, 0, none⟩)) F (.ok (fms (ts.take (j + 1)))) ∧ (∀ i, F i → w.heap.size ≤ i) ∧ Below w.heap.size w w5) := ⟨F4, V.wk HW4.out.1 hK5 (fun _ _ q => q), HW4.out.2.1, hK5.next HW4.out.2.2 (fun i hi => hi.elim) HW4.out.2.2.size⟩
        clear hK5 HW4 x0 x1 x2 x3 x4 x5 x6
        go_wp2
        go_roundw
        case rel => exact ⟨j + 1, by omega, by go_num, HW5⟩
        case measure => simp [intOf]; omega
      · obtain rfl : j = n := by omega
        have hjI : ¬ (j : Int) < (j : Int) := by omega
        rw [List.take_of_length_le (by have := HN.out; omega)] at hW
        have HW1 : Hid (V.Wt wr (.pointer (some ⟨w2.heap.size, 0, none⟩)) F (.ok (fms ts)) ∧ Below w.heap.size w wr) := ⟨hW, hB⟩
        clear hW hF hB HW
        go_wp2_with fail
        refine (V.wdone _ _ _ _ HW1.out.1).mono ?_
        rintro e w4 ⟨v4, rfl, hL4, hO4, hb4⟩
        obtain ⟨ad4, cap4, rfl, -, -⟩ := hL4.len
        have HL4 : Hid (Bs w4 (.slice ad4 (fms ts).length cap4) (fms ts) ∧ Below w.heap.size w w4 ∧ V.Wt w4 (.pointer (some ⟨w2.heap.size, 0, none⟩)) F (.ok (fms ts))) := ⟨hL4, bchain HW1.out.2 hb4, V.wl HW1.out.1 hb4⟩
        clear hL4 hO4 hb4 HW1
        rw [dnE_ok, dnV_ok]
        go_wp2_with fail
        refine (V.wdone _ _ _ _ HL4.out.2.2).mono ?_
        rintro e w5 ⟨v5, rfl, hL5, hO5, hb5⟩
        obtain ⟨ad5, cap5, rfl, -, -⟩ := hL5.len
        have HL5 : Hid (Bs w5 (.slice ad4 (fms ts).length cap4) (fms ts) ∧ Below w.heap.size w w5 ∧ Bs w5 (.slice ad5 (fms ts).length cap5) (fms ts)) := ⟨HL4.out.1.later hb5, bchain HL4.out.2.1 hb5, hL5⟩
        clear hL5 hO5 hb5 HL4
        rw [dnE_ok, dnV_ok]
        go_wp2_with fail
        refine (V.wdone _ _ _ _ (V.wnil w5)).mono ?_
        rintro e w6 ⟨v6, rfl, hL6, hO6, hb6⟩
        obtain ⟨ad6, cap6, rfl, -, -⟩ := hL6.len
        have HL6 : Hid (Bs w6 (.slice ad4 (fms ts).length cap4) (fms ts) ∧ Below w.heap.size w w6 ∧ Bs w6 (.slice ad5 (fms ts).length cap5) (fms ts)) := ⟨HL5.out.1.later hb6, bchain HL5.out.2.1 hb6, HL5.out.2.2.later hb6⟩
        clear hL6 hO6 hb6 HL5
        rw [dnE_err]
        go_wp2_with fail
        refine (forms12 _ ts w6 (HT.out.later HL6.out.2.1) HG.out HF.out).mono ?_
        rintro e w7 ⟨v7, rfl, hL7, hb7⟩
        have HL7 : Hid (Bs w7 (.slice ad4 (fms ts).length cap4) (fms ts) ∧ Below w.heap.size w w7 ∧ Bs w7 (.slice ad5 (fms ts).length cap5) (fms ts) ∧ Bs w7 v7 (fms ts)) := ⟨HL6.out.1.later hb7, bchain HL6.out.2.1 hb7, HL6.out.2.2.later hb7, hL7⟩
        clear hL7 hb7 HL6
        go_wp2_with fail
        refine (sameB _ _ _ _ _ HL7.out.1 HL7.out.2.2.2).mono ?_
        rintro e w8 ⟨rfl, hb8⟩
        have HL8 : Hid (Bs w8 (.slice ad4 (fms ts).length cap4) (fms ts) ∧ Below w.heap.size w w8 ∧ Bs w8 (.slice ad5 (fms ts).length cap5) (fms ts)) := ⟨HL7.out.1.later hb8, bchain HL7.out.2.1 hb8, HL7.out.2.2.1.later hb8⟩
        clear hb8 HL7
        rw [decide_eq_true rfl]
        go_wp2_with fail
        refine (sameB _ _ _ _ _ HL8.out.2.2 HL8.out.1).mono ?_
        rintro e w9 ⟨rfl, hb9⟩
        have HL9 : Hid (Below w.heap.size w w9) := bchain HL8.out.2.1 hb9
        clear hb9 HL8
        rw [decide_eq_true rfl]
        go_wp2
        go_ret
        exact ⟨rfl, HL9.out⟩
end Go.Proofs.Ytahbpegjdmblaaa
