/-
  The law PackBack.
-/
import Derived.Test.YtahbpegjdmblaaaPkLawJ
set_option linter.unusedVariables false
set_option linter.unusedSimpArgs false
namespace Go.Proofs.Ytahbpegjdmblaaa
open Go.RowKit

theorem fms_drop {ts : List Th} {j : Nat} (h : j < ts.length) : fms (ts.drop j) = (ts.getD j th0).form ++ fms (ts.drop (j + 1)) := by
  unfold fms
  rw [List.drop_eq_getElem_cons h, List.flatMap_cons]
  simp [List.getD, h]
theorem fms_end {ts : List Th} {j : Nat} (h : ts.length ≤ j) : fms (ts.drop j) = [] := by
  rw [List.drop_eq_nil_of_le h]
  rfl
theorem fms_lend {ts : List Th} (hg : ∀ t ∈ ts, t.good) (hf : fewB ts = true) (j : Nat) : (fms (ts.drop j)).length ≤ 40400 := by
  have hF := few_yes hf
  have h1 := forms_len (ts.drop j) (fun t ht => form_len (hg t (List.mem_of_mem_drop ht)) (hF.2 t (List.mem_of_mem_drop ht)))
  rw [List.length_drop] at h1
  have := hF.1
  omega
theorem fms_byte {ts : List Th} (hg : ∀ t ∈ ts, t.good) : ∀ c ∈ fms ts, c < 256 := by
  intro c hc
  unfold fms at hc
  obtain ⟨t, ht, hc⟩ := List.mem_flatMap.1 hc
  have g := hg t ht
  rcases kinds t.k with h | h | h | h | h | h | h
  · rw [form_1 h] at hc; exact enU_byte _ c hc
  · rw [form_2 h] at hc; exact enU_byte _ c hc
  · rw [form_3 h] at hc; exact enN_byte _ _ c hc
  · rw [form_4 h] at hc
    unfold enB at hc
    rcases List.mem_append.1 hc with q | q
    · exact enU_byte _ c q
    · exact g.b.1 c q
  · rw [form_5 h] at hc
    unfold enIs at hc
    rcases List.mem_append.1 hc with q | q
    · exact enU_byte _ c q
    · obtain ⟨x, -, q⟩ := List.mem_flatMap.1 q
      exact enU_byte _ c q
  · rw [form_6 h] at hc
    unfold enFs at hc
    rcases List.mem_append.1 hc with q | q
    · exact enU_byte _ c q
    · obtain ⟨x, -, q⟩ := List.mem_flatMap.1 q
      exact enN_byte _ _ c q
  · rw [form_0 h] at hc; cases hc
theorem slice_run0 (w : World) (ad : Option Addr) (n cap q : Nat) (h2 : q ≤ cap) :
    (Instr.slice 26 (.slice ad n cap) none (some (.int .i64 (q : Int))) none).run Try.prog w = .ok (sv ad 0 q cap) w := by
  have ht : Try.prog.underlying 26 = some (.slice (Try.prog.elem 26)) := by kernel_rfl
  have hs : (sizeOf (Try.prog.elem 26)).run Try.prog w = .ok 1 w := by
    obtain ⟨i0, hti, hi0, hi1, hi2⟩ := byteInfo
    have e : Try.prog.elem 26 = 5 := by kernel_rfl
    rw [e]
    simp [sizeOf, typeInfo, hti, hi1]
  rw [run_slice_h w 26 ad n cap ht .i64 (q : Int) (by omega) (by omega), hs]
  simp [Result.andThen, sliced, sv]
theorem sliceAt_run0 (w : World) (ad : Option Addr) (n cap q : Nat) (h2 : q ≤ cap) :
    (Instr.sliceAt 26 (.slice ad n cap) none (some (.int .i64 (q : Int))) none).run Try.prog w = .ok (sv ad 0 q cap) w := by
  have ht : Try.prog.underlying 26 = some (.slice (Try.prog.elem 26)) := by kernel_rfl
  rw [run_sliceAt_slice _ _ _ _ _ _ ht, slice_run0 w ad n cap q h2]
/-- A thing of the argument is read again, whatever has come to be since. -/
theorem Tk.again {w W : World} {t : Th} {vb vl vf : Value} (h : Tk w t vb vl vf) (V : Pack1) (p : Value) (F : Nat → Prop) (s : Sta) (hS : Sl s 1000000) (hb : Below w.heap.size w W) (hF : ∀ i, F i → w.heap.size ≤ i) (hR : V.Rt W p F s) :
    Calls Try.prog 20 #[.agg #[.int .i64 t.k, .int .u64 (t.u : Int), .int .i64 t.n, .int .i64 t.x, vb, vl, vf], p] W fun e w' => e = .returned (.bool (ag t s)) ∧ Af V.Rt p F (nxt t.k s) W w' := by
  have hn := h.nf hF
  have hs := h.s
  exact again12 V t ⟨by omega, by omega, by omega⟩ vb vl vf p F s hS W (h.b.later hb) (h.l.later hb) (h.f.later hb) hn.1 hn.2.1 hn.2.2 hR
/-- A reader of what is cut off: an error, or still cut off. -/
def Cut (ts : List Th) (j : Nat) (s : Sta) : Prop := s = .error 120 ∨ ∃ q, s = .ok q ∧ q <+: fms (ts.drop j) ∧ q.length < (fms (ts.drop j)).length
theorem Cut.next {ts : List Th} {j : Nat} {s : Sta} (h : Cut ts j s) (hj : j < ts.length) (g : (ts.getD j th0).good) : Cut ts (j + 1) (nxt (ts.getD j th0).k s) := by
  rcases h with rfl | ⟨q, rfl, h1, h2⟩
  · exact Or.inl (nxt_err _ _)
  · rw [fms_drop hj] at h1 h2
    rcases nxt_cut _ g q _ h1 h2 with h | ⟨q', h3, h4, h5⟩
    · exact Or.inl h
    · exact Or.inr ⟨q', h3, h4, h5⟩
theorem Cut.sl {ts : List Th} {j : Nat} {s : Sta} (h : Cut ts j s) (hn : (fms (ts.drop j)).length ≤ 40400) : Sl s 1000000 := by
  rcases h with rfl | ⟨q, rfl, h1, h2⟩
  · trivial
  · show _ ≤ _
    omega
theorem Cut.last {ts : List Th} {j : Nat} {s : Sta} (h : Cut ts j s) (hj : ts.length ≤ j) : s = .error 120 := by
  rcases h with h | ⟨q, rfl, h1, h2⟩
  · exact h
  · rw [fms_end hj] at h2
    simp at h2
set_option maxRecDepth 100000 in
set_option maxHeartbeats 8000000 in
theorem packBack_any (V : Pack1) (v : Value) (ts : List Th) (hg : ∀ t ∈ ts, t.good) (cut : Int) (hcut : cut ≤ 9223372036854775807) (w : World) (h : Ts w v ts) :
    Calls Try.prog 6 #[v, .int .i64 cut] w fun e w' => e = .returned (.bool true) ∧ Below w.heap.size w w' := by
  have HT : Hid (Ts w v ts) := h
  have HG : Hid (∀ t ∈ ts, t.good) := hg
  obtain ⟨ad, cap, rfl, k1, k2⟩ := h.len
  unfold maxLen at k2
  obtain ⟨n, hn⟩ : ∃ n, ts.length = n := ⟨_, rfl⟩
  have HN : Hid (ts.length = n) := hn
  rw [hn] at k1 HT ⊢
  clear h hn hg
  go_enter Try.func6, Try.ntmps6
  go_wp2_with fail
  refine (awake12 V w).mono ?_
  rintro e w1 ⟨rfl, hb1⟩
  have HB1 : Hid (Below w.heap.size w w1) := hb1
  clear hb1
  go_wp2_with fail
  refine (few12 _ ts w1 (HT.out.later HB1.out)).mono ?_
  rintro e w2 ⟨rfl, hb2⟩
  have HB2 : Hid (Below w.heap.size w w2) := bchain HB1.out hb2
  clear hb2 HB1
  cases hf : fewB ts with
  | false =>
    go_wp2
    go_ret
    exact ⟨rfl, HB2.out⟩
  | true =>
    have HF : Hid (fewB ts = true) := hf
    clear hf
    by_cases hc0 : cut < 0
    · go_wp2
      go_ret
      exact ⟨rfl, HB2.out⟩
    have HW0 : Hid (V.Wt (w2.alloc (.cells #[.slice none 0 0, .bool false] 28)) (.pointer (some ⟨w2.heap.size, 0, none⟩)) (· = w2.heap.size) (.ok (fms (ts.take 0)))) := V.wz w2
    have HB3 : Hid (Below w.heap.size w (w2.alloc (.cells #[.slice none 0 0, .bool false] 28))) := HB2.out.alloc HB2.out.size _
    have hs2 := HB2.out.size
    clear HB2
    go_upto_region 7 with fail
    go_loopw [29] (fun s29 wr => ∃ j : Nat, j ≤ n ∧ s29 = .int .i64 (j : Int) ∧ Hid (∃ F : Nat → Prop, V.Wt wr (.pointer (some ⟨w2.heap.size, 0, none⟩)) F (.ok (fms (ts.take j))) ∧ (∀ i, F i → w.heap.size ≤ i) ∧ Below w.heap.size w wr)) (fun s29 _ => n - (intOf s29).toNat)
    case atStart => exact ⟨0, by omega, rfl, _, HW0.out, fun i hi => by omega, HB3.out⟩
    case round =>
      clear HW0 HB3
      obtain ⟨j, hj, rfl, HW⟩ := hrel
      obtain ⟨F, hW, hF, hB⟩ := HW.out
      by_cases hlt : j < n
      · have hjI : (j : Int) < (n : Int) := by omega
        have hN := HN.out
        obtain ⟨b, o, a1, a2, a3, p1, p2, p3, rfl, hc, hk⟩ := HT.out.take HG.out HF.out j (by omega)
        have HS : Hid (fms (ts.take (j + 1)) = fms (ts.take j) ++ (ts.getD j th0).form) := forms_take (by omega)
        have HLn : Hid ((fms (ts.take j)).length ≤ 40400 ∧ (ts.getD j th0).form.length ≤ 1010) := ⟨fms_len HG.out HF.out j, form_len hk.g hk.s⟩
        have hd := hc.later hB
        have d0 := hd.c0
        have d1 := hd.c1
        have d2 := hd.c2
        have d3 := hd.c3
        have d4 := hd.c4
        have d5 := hd.c5
        have d6 := hd.c6
        generalize ts.getD j th0 = t at *
        have HK := hidI hk
        have HWB : Hid (V.Wt wr (.pointer (some ⟨w2.heap.size, 0, none⟩)) F (.ok (fms (ts.take j))) ∧ (∀ i, F i → w.heap.size ≤ i) ∧ Below w.heap.size w wr) := ⟨hW, hF, hB⟩
        clear hc hk hd hW hF hB HW hN
        go_wp2_with fail
        refine (HK.out.write V _ F _ (HWB.out.2.2.alloc HWB.out.2.2.size _) HWB.out.2.1 (V.wl HWB.out.1 (bel1 _ _))).mono ?_
        rintro e w4 ⟨rfl, F4, hW4, hG4, hK4⟩
        have HW4 : Hid (∃ F : Nat → Prop, V.Wt w4 (.pointer (some ⟨w2.heap.size, 0, none⟩)) F (.ok (fms (ts.take (j + 1)))) ∧ (∀ i, F i → w.heap.size ≤ i) ∧ Below w.heap.size w w4) := by
          rw [putT_ok (by have := HLn.out; omega), ← HS.out] at hW4
          have hb := HWB.out.2.2.alloc HWB.out.2.2.size (.cells #[.int .i64 t.k, .int .u64 (t.u : Int), .int .i64 t.n, .int .i64 t.x, .slice a1 t.b.length p1, .slice a2 t.l.length p2, .slice a3 t.f.length p3] 34)
          exact ⟨F4, hW4, hG4.up HWB.out.2.1 hb.size, hK4.next hb HWB.out.2.1 hb.size⟩
        clear hW4 hG4 hK4 HWB d0 d1 d2 d3 d4 d5 d6
        go_wp2
        go_roundw
        case rel => exact ⟨j + 1, by omega, by go_num, HW4⟩
        case measure => simp [intOf]; omega
      · obtain rfl : j = n := by omega
        have hjI : ¬ (j : Int) < (j : Int) := by omega
        rw [List.take_of_length_le (by have := HN.out; omega)] at hW
        have HW1 : Hid (V.Wt wr (.pointer (some ⟨w2.heap.size, 0, none⟩)) F (.ok (fms ts)) ∧ Below w.heap.size w wr) := ⟨hW, hB⟩
        clear hW hF hB HW
        go_wp2_with fail
        refine (V.wdone _ _ _ _ HW1.out.1).mono ?_
        rintro e w4 ⟨v4, rfl, hL4, hO4, hb4⟩
        rw [dnV_ok] at hL4
        obtain ⟨ad4, cap4, rfl, kk1, kk2⟩ := hL4.len
        unfold maxLen at kk2
        have hfl : (fms ts).length ≤ 40400 := fms_lend HG.out HF.out 0
        obtain ⟨M, hM⟩ : ∃ M, (fms ts).length = M := ⟨_, rfl⟩
        have HM : Hid ((fms ts).length = M) := hM
        rw [hM] at hL4 kk1 hfl
        have HL4 : Hid (Bs w4 (.slice ad4 M cap4) (fms ts) ∧ Below w.heap.size w w4) := ⟨hL4, bchain HW1.out.2 hb4⟩
        have HT4 : Hid (Ts w4 (.slice ad j cap) ts) := HT.out.later HL4.out.2
        rw [dnE_ok, hM]
        clear hL4 hO4 hb4 HW1 hM
        go_wp2_with fail
        refine (V.read _ _ (fms ts) HL4.out.1 (fms_byte HG.out) (by have := HM.out; omega)).mono ?_
        rintro e w5 ⟨p, F5, rfl, hR5, hF5, hb5⟩
        have HR5 : Hid (V.Rt w5 p F5 (.ok (fms (ts.drop 0))) ∧ (∀ i, F5 i → w4.heap.size ≤ i) ∧ Below w4.heap.size w4 w5) := ⟨hR5, hF5, hb5⟩
        clear hR5 hF5 hb5
        rename World => wo
        go_upto_region 16 with fail
        go_loopw [48] (fun s48 wr => ∃ i : Nat, i ≤ j ∧ s48 = .int .i64 (i : Int) ∧ Hid (∃ F : Nat → Prop, V.Rt wr p F (.ok (fms (ts.drop i))) ∧ (∀ i, F i → w4.heap.size ≤ i) ∧ Below w4.heap.size w4 wr)) (fun s48 _ => j - (intOf s48).toNat)
        case atStart => exact ⟨0, by omega, rfl, F5, HR5.out⟩
        case round =>
          clear HR5
          obtain ⟨i, hi, rfl, HR⟩ := hrel
          obtain ⟨G, hR, hG, hB⟩ := HR.out
          by_cases hlt2 : i < j
          · have hiI : (i : Int) < (j : Int) := by omega
            have hN := HN.out
            obtain ⟨b, o, a1, a2, a3, p1, p2, p3, rfl, hc, hk⟩ := HT4.out.take HG.out HF.out i (by omega)
            have HS : Hid (fms (ts.drop i) = (ts.getD i th0).form ++ fms (ts.drop (i + 1))) := fms_drop (by omega)
            have HSl : Hid (Sl (.ok (fms (ts.drop i))) 1000000) := by
              show _ ≤ _
              have := fms_lend HG.out HF.out i
              omega
            have hd := hc.later hB
            have d0 := hd.c0
            have d1 := hd.c1
            have d2 := hd.c2
            have d3 := hd.c3
            have d4 := hd.c4
            have d5 := hd.c5
            have d6 := hd.c6
            generalize ts.getD i th0 = t at *
            have HK := hidI hk
            have HRB : Hid (V.Rt wr p G (.ok (fms (ts.drop i))) ∧ (∀ i, G i → w4.heap.size ≤ i) ∧ Below w4.heap.size w4 wr) := ⟨hR, hG, hB⟩
            clear hc hk hd hR hG hB HR hN
            go_wp2_with fail
            refine (HK.out.again V _ G _ HSl.out (HRB.out.2.2.alloc HRB.out.2.2.size _) HRB.out.2.1 (V.rl HRB.out.1 (bel1 _ _))).mono ?_
            rintro e w6 ⟨rfl, F6, hR6, hG6, hK6⟩
            have hag : ag t (.ok (fms (ts.drop i))) = true := by rw [HS.out]; exact ag_form t HK.out.g _
            have HR6 : Hid (∃ F : Nat → Prop, V.Rt w6 p F (.ok (fms (ts.drop (i + 1)))) ∧ (∀ i, F i → w4.heap.size ≤ i) ∧ Below w4.heap.size w4 w6) := by
              rw [HS.out, nxt_form t HK.out.g] at hR6
              have hb := HRB.out.2.2.alloc HRB.out.2.2.size (.cells #[.int .i64 t.k, .int .u64 (t.u : Int), .int .i64 t.n, .int .i64 t.x, .slice a1 t.b.length p1, .slice a2 t.l.length p2, .slice a3 t.f.length p3] 34)
              exact ⟨F6, hR6, hG6.up HRB.out.2.1 hb.size, hK6.next hb HRB.out.2.1 hb.size⟩
            rw [hag]
            clear hR6 hG6 hK6 HRB d0 d1 d2 d3 d4 d5 d6 hag
            go_wp2
            go_roundw
            case rel => exact ⟨i + 1, by omega, by go_num, HR6⟩
            case measure => simp [intOf]; omega
          · obtain rfl : i = j := by omega
            have hiI : ¬ (i : Int) < (i : Int) := by omega
            rw [fms_end (by have := HN.out; omega)] at hR
            have HRB : Hid (V.Rt wr p G (.ok []) ∧ Below w4.heap.size w4 wr) := ⟨hR, hB⟩
            clear hR hG hB HR
            go_wp2_with fail
            refine (V.rdone _ _ _ _ HRB.out.1).mono ?_
            rintro e w6 ⟨rfl, hb6⟩
            have HR6 : Hid (V.Rt w6 p G (.ok []) ∧ Below w4.heap.size w4 w6) := ⟨V.rl HRB.out.1 hb6, bchain HRB.out.2 hb6⟩
            have he : ((rdE (.ok []) : Nat) : Int) = 0 := rfl
            rw [he]
            clear he hb6 HRB
            by_cases hM0 : M = 0
            · subst hM0
              go_wp2_with fail
              refine (V.rdone _ _ _ _ HR6.out.1).mono ?_
              rintro e w7 ⟨rfl, hb7⟩
              have HB7 : Hid (Below w.heap.size w w7) := bchain HL4.out.2 (bchain HR6.out.2 hb7)
              have he : ((rdE (.ok []) : Nat) : Int) = 0 := rfl
              rw [he]
              clear he hb7 HR6
              go_wp2
              go_ret
              exact ⟨rfl, HB7.out⟩
            · have hM0I : ¬ (M : Int) = 0 := by omega
              obtain ⟨c, hc⟩ : ∃ c : Nat, cut.tmod (M : Int) = (c : Int) := ⟨(cut.tmod (M : Int)).toNat, by have := Int.tmod_nonneg (M : Int) (show 0 ≤ cut by omega); omega⟩
              have hcM : c < M := by
                have := Int.tmod_lt_of_pos cut (show (0 : Int) < (M : Int) by omega)
                omega
              have hwc : IntKind.i64.wrap (c : Int) = (c : Int) := by rw [IntKind.wrap_i64]; omega
              have hs1 : ∀ W : World, (Instr.sliceAt 26 (.slice ad4 M cap4) none (some (.int .i64 (c : Int))) none).run Try.prog W = .ok (sv ad4 0 c cap4) W := fun W => sliceAt_run0 W ad4 M cap4 c (by omega)
              have hs2 : ∀ W : World, (Instr.slice 26 (.slice ad4 M cap4) none (some (.int .i64 (c : Int))) none).run Try.prog W = .ok (sv ad4 0 c cap4) W := fun W => slice_run0 W ad4 M cap4 c (by omega)
              have HCB : Hid (Bs w6 (sv ad4 0 c cap4) ((fms ts).take c)) := by
                have := sv_bs (HL4.out.1.later HR6.out.2) 0 c (Nat.zero_le _) (by have := HM.out; omega)
                rw [List.drop_zero, Nat.sub_zero] at this
                exact this
              have HCc : Hid (Cut ts 0 (.ok ((fms ts).take c))) := by
                refine Or.inr ⟨_, rfl, List.take_prefix _ _, ?_⟩
                show _ < (fms ts).length
                have := HM.out
                rw [List.length_take]
                omega
              have HB6 : Hid (Below w4.heap.size w4 w6) := HR6.out.2
              clear HR6
              go_wp2_with fail
              refine (V.read _ _ ((fms ts).take c) HCB.out (fun x hx => fms_byte HG.out x (List.mem_of_mem_take hx)) (by rw [List.length_take]; omega)).mono ?_
              rintro e w7 ⟨p7, F7, rfl, hR7, hF7, hb7⟩
              have HR7 : Hid (V.Rt w7 p7 F7 (.ok ((fms ts).take c)) ∧ (∀ i, F7 i → w4.heap.size ≤ i) ∧ Below w4.heap.size w4 w7) := ⟨hR7, fun i hi => Nat.le_trans HB6.out.size (hF7 i hi), bchain HB6.out hb7⟩
              clear hR7 hF7 hb7 HB6 HCB hs1 hs2 hc hwc
              rename World => wp
              go_upto_region 25 with fail
              go_loopw [77] (fun s77 wr => ∃ a : Nat, a ≤ i ∧ s77 = .int .i64 (a : Int) ∧ Hid (∃ (F : Nat → Prop) (s : Sta), V.Rt wr p7 F s ∧ Cut ts a s ∧ (∀ i, F i → w4.heap.size ≤ i) ∧ Below w4.heap.size w4 wr)) (fun s77 _ => i - (intOf s77).toNat)
              case atStart => exact ⟨0, by omega, rfl, F7, _, HR7.out.1, HCc.out, HR7.out.2⟩
              case round =>
                clear HR7 HCc
                obtain ⟨a, ha, rfl, HR⟩ := hrel
                obtain ⟨G7, sC, hR, hC, hG, hB⟩ := HR.out
                by_cases hlt3 : a < i
                · have haI : (a : Int) < (i : Int) := by omega
                  have hN := HN.out
                  obtain ⟨b, o, a1, a2, a3, p1, p2, p3, rfl, hc, hk⟩ := HT4.out.take HG.out HF.out a (by omega)
                  have HSl : Hid (Sl sC 1000000) := hC.sl (fms_lend HG.out HF.out a)
                  have HC2 : Hid (Cut ts (a + 1) (nxt (ts.getD a th0).k sC)) := hC.next (by omega) hk.g
                  have hd := hc.later hB
                  have d0 := hd.c0
                  have d1 := hd.c1
                  have d2 := hd.c2
                  have d3 := hd.c3
                  have d4 := hd.c4
                  have d5 := hd.c5
                  have d6 := hd.c6
                  generalize ts.getD a th0 = t at *
                  have HK := hidI hk
                  have HRB : Hid (V.Rt wr p7 G7 sC ∧ (∀ i, G7 i → w4.heap.size ≤ i) ∧ Below w4.heap.size w4 wr) := ⟨hR, hG, hB⟩
                  clear hc hk hd hR hG hB HR hN hC
                  go_wp2_with fail
                  refine (HK.out.again V _ G7 _ HSl.out (HRB.out.2.2.alloc HRB.out.2.2.size _) HRB.out.2.1 (V.rl HRB.out.1 (bel1 _ _))).mono ?_
                  rintro e w8 ⟨rfl, F8, hR8, hG8, hK8⟩
                  have HR8 : Hid (∃ (F : Nat → Prop) (s : Sta), V.Rt w8 p7 F s ∧ Cut ts (a + 1) s ∧ (∀ i, F i → w4.heap.size ≤ i) ∧ Below w4.heap.size w4 w8) := by
                    have hb := HRB.out.2.2.alloc HRB.out.2.2.size (.cells #[.int .i64 t.k, .int .u64 (t.u : Int), .int .i64 t.n, .int .i64 t.x, .slice a1 t.b.length p1, .slice a2 t.l.length p2, .slice a3 t.f.length p3] 34)
                    exact ⟨F8, _, hR8, HC2.out, hG8.up HRB.out.2.1 hb.size, hK8.next hb HRB.out.2.1 hb.size⟩
                  clear hR8 hG8 hK8 HRB d0 d1 d2 d3 d4 d5 d6 HC2
                  generalize ag t sC = B at *
                  go_wp2
                  go_roundw
                  case rel => exact ⟨a + 1, by omega, by go_num, HR8⟩
                  case measure => simp [intOf]; omega
                · obtain rfl : a = i := by omega
                  have haI : ¬ (a : Int) < (a : Int) := by omega
                  obtain rfl := hC.last (by have := HN.out; omega)
                  have HRB : Hid (V.Rt wr p7 G7 (.error 120) ∧ Below w4.heap.size w4 wr) := ⟨hR, hB⟩
                  clear hR hG hB HR hC
                  go_wp2_with fail
                  refine (V.rdone _ _ _ _ HRB.out.1).mono ?_
                  rintro e w8 ⟨rfl, hb8⟩
                  have HB8 : Hid (Below w.heap.size w w8) := bchain HL4.out.2 (bchain HRB.out.2 hb8)
                  have he : ((rdE (.error 120) : Nat) : Int) = 120 := rfl
                  rw [he]
                  clear he hb8 HRB
                  go_wp2
                  go_ret
                  exact ⟨rfl, HB8.out⟩
end Go.Proofs.Ytahbpegjdmblaaa
