/-
The document's payload (regattaref14), some kinds.
The document's payload (regattaref14), some kinds.
The document's payload (regattaref14), some kinds.
The document's payload (regattaref14), some kinds.
-/
import Derived.Test.YtfcbgkcclganmaaDoorZ08

set_option linter.unusedVariables false
set_option linter.unusedSimpArgs false
namespace Go.Proofs.YtfcbgkcclganmaaDoor
open Go.RowKit

set_option maxRecDepth 100000 in
set_option maxHeartbeats 4000000 in
theorem refPayload3 (fr inc rd h pt ps : Int) (d : List Nat) (ad : Option Addr) (n cap : Nat) (w : World) (hn : d.length = n) (r : Rgt ⟨3, fr, inc, rd, h, pt, ps, d⟩) (hb : Bs w (.slice ad n cap) d) :
    Calls Tryd.prog 29 #[msV ⟨3, fr, inc, rd, h, pt, ps, d⟩ (.slice ad n cap)] w fun e w' => ∃ v', e = .returned v' ∧ Bs w' v' (pay ⟨3, fr, inc, rd, h, pt, ps, d⟩) ∧ Below w.heap.size w w' := by
  obtain ⟨L, hL⟩ : ∃ L, ([fr, inc, rd, pt] : List Int) = L := ⟨_, rfl⟩
  have HL : Hid (L.length = 4 ∧ (∀ x ∈ L, okI x) ∧ pay ⟨3, fr, inc, rd, h, pt, ps, d⟩ = L.flatMap enI ++ [] ∧ (pay ⟨3, fr, inc, rd, h, pt, ps, d⟩).length ≤ 40000) := by
    refine ⟨by rw [← hL]; rfl, ?_, by rw [← hL]; rfl, pay_len r⟩
    have := ints_ok r
    rw [← hL]
    exact this
  have HN : Hid (d.length = n ∧ n ≤ 32768) := ⟨hn, by have h1 := r.d; dsimp only at h1; omega⟩
  have hcnt : IntKind.u64.wrap (n : Int) = (n : Int) := by rw [IntKind.wrap_u64]; have := HN.out; omega
  obtain ⟨wX, hwX⟩ : ∃ wX, wX = (w.alloc (.cells #[.int .i64 3, .int .i64 fr, .int .i64 inc, .int .i64 rd, .int .i64 h, .int .i64 pt, .int .i64 ps, .slice ad n cap] 26)).alloc (.cells #[.int .i64 fr, .int .i64 inc, .int .i64 rd, .int .i64 pt] 3) := ⟨_, rfl⟩
  have HX : Hid (B8 w.heap.size ⟨3, fr, inc, rd, h, pt, ps, d⟩ (.slice ad n cap) wX ∧ Below w.heap.size w wX ∧ Bs wX (.slice ad n cap) d ∧ Is wX (.slice (some ⟨w.heap.size + 1, 0, none⟩) 4 4) L ∧ wX.heap.size = w.heap.size + 2) := by
    rw [hwX, ← hL]
    refine ⟨(B8.new _ _ _ _).later (bel1 _ _), bel2 _ _ _, hb.later (bel2 _ _ _), ?_, by simp⟩
    have := is_list (w.alloc (.cells #[.int .i64 3, .int .i64 fr, .int .i64 inc, .int .i64 rd, .int .i64 h, .int .i64 pt, .int .i64 ps, .slice ad n cap] 26)) [fr, inc, rd, pt] 3 #[.int .i64 fr, .int .i64 inc, .int .i64 rd, .int .i64 pt] rfl (by simp)
    simpa [World.size_alloc] using this
  clear hn r hb hL
  show Calls Tryd.prog 29 #[.agg #[.int .i64 3, .int .i64 fr, .int .i64 inc, .int .i64 rd, .int .i64 h, .int .i64 pt, .int .i64 ps, .slice ad n cap]] w _
  go_enter Tryd.func29, Tryd.ntmps29
  go_upto_region 20 with fail
  rw [← hwX]
  clear hwX
  generalize hbm : w.heap.size = bm at *
  have HBm : Hid (w.heap.size = bm) := hbm
  clear hbm
  go_loopw [4, 5] (fun s4 s5 wr => ∃ (j : Nat), j ≤ 4 ∧ s5 = .int .i64 ((j : Nat) : Int) ∧ Hid (Ob wX.heap.size wr s4 ((L.take j).flatMap enI)) ∧ Hid (Below wX.heap.size wX wr)) (fun _ s5 _ => 4 - (intOf s5).toNat)
  case atStart => exact ⟨0, by omega, rfl, by show Ob wX.heap.size wX _ []; exact ob_nil _ _, Below.refl _ _⟩
  case round =>
    obtain ⟨j, hj, rfl, HO, HB⟩ := hrel
    by_cases hjn : j < 4
    · have hjI : (j : Int) < 4 := by omega
      have hj1 : IntKind.i64.wrap ((j : Int) + 1) = ((j + 1 : Nat) : Int) := by rw [IntKind.wrap_i64]; omega
      have hjL : j < L.length := by rw [HL.out.1]; exact hjn
      obtain ⟨g0, o0, e0, x0⟩ := (HX.out.2.2.2.1.later HB.out).cel j hjL
      cases e0
      rw [Nat.zero_add] at x0
      have HE : Hid ((L.take (j + 1)).flatMap enI = (L.take j).flatMap enI ++ enU (ctI (L.getD j 0))) := by
        show _ = _
        have e : L.getD j 0 = L[j] := by simp [List.getD, hjL]
        rw [List.take_add_one, List.flatMap_append, e]
        simp [hjL, enI]
      have HXj : Hid (okI (L.getD j 0)) := HL.out.2.1 _ (by
        have e : L.getD j 0 = L[j] := by simp [List.getD, hjL]
        rw [e]
        exact List.getElem_mem hjL)
      have HPl : Hid (((L.take j).flatMap enI).length ≤ 40000) := by
        have h1 := HL.out.2.2.2
        have h2 : ((L.take j).flatMap enI).length ≤ (L.flatMap enI).length := by
          conv => rhs; rw [← List.take_append_drop j L, List.flatMap_append, List.length_append]
          omega
        rw [HL.out.2.2.1, List.length_append] at h1
        show _ ≤ _
        omega
      generalize L.getD j 0 = x at *
      go_wp2_with fail
      refine (refCount x HXj.out.1 HXj.out.2 wr).mono ?_
      rintro e w3 ⟨rfl, rfl⟩
      go_wp2_with fail
      refine (refUint (ctI x) (ctI_lt HXj.out.1 HXj.out.2) w3).mono ?_
      rintro e w4 ⟨v4, rfl, hO4, hB4⟩
      have HO4 : Hid (Bs w4 v4 (enU (ctI x)) ∧ Ob wX.heap.size w4 u4 ((L.take j).flatMap enI) ∧ Below wX.heap.size wX w4) := ⟨hO4.bs.1, HO.out.later hB4, bchain HB.out hB4⟩
      obtain ⟨a4, p4, rfl⟩ := hO4.sl
      have H10 : Hid ((enU (ctI x)).length ≤ 10) := enU_ten (ctI_lt HXj.out.1 HXj.out.2)
      generalize enU (ctI x) = S at *
      clear hO4 hB4 x0 HO HB
      go_wp2_with (at_builtin; refine apB rfl _ _ rfl wX.heap.size _ _ rfl HO4.out.2.1 _ S rfl HO4.out.1 (by have := HPl.out; have := H10.out; omega) HO4.out.2.2.size ?_; intro v5 w5 hO5 hg5)
      have HO5 : Hid (Ob wX.heap.size w5 v5 ((L.take (j + 1)).flatMap enI)) := by rw [HE.out]; exact hO5
      have HB5 : Hid (Below wX.heap.size wX w5) := hg5.1 _ HO4.out.2.2
      clear hO5 hg5 HO4
      go_wp2
      go_roundw
      case rel => exact ⟨j + 1, by omega, rfl, HO5, HB5⟩
      case measure => simp only [intOf]; omega
    · have hjI : ¬ (j : Int) < 4 := by omega
      have HO2 : Hid (Ob wX.heap.size wr u4 (L.flatMap enI)) := by have h := HO.out; rw [List.take_of_length_le (by rw [HL.out.1]; omega)] at h; exact h
      obtain ⟨a4, p4, rfl⟩ := HO2.out.sl
      have y := HX.out.1.later HB.out
      have y0 := y.c0
      have y7 := y.c7
      dsimp only at y0 y7
      have HBw : Hid (Below bm w wr) := HX.out.2.1.trans (HB.out.mono (by have := HX.out.2.2.2.2; omega))
      have HF : Hid (pay ⟨3, fr, inc, rd, h, pt, ps, d⟩ = L.flatMap enI) := by show _ = _; rw [HL.out.2.2.1, List.append_nil]
      generalize L.flatMap enI = S at *
      clear HO y
      go_wp2
      go_ret
      refine ⟨_, rfl, by rw [HF.out]; exact HO2.out.bs.1, ?_⟩
      rw [HBm.out]
      exact HBw.out
set_option maxRecDepth 100000 in
set_option maxHeartbeats 4000000 in
theorem refPayload6 (fr inc rd h pt ps : Int) (d : List Nat) (ad : Option Addr) (n cap : Nat) (w : World) (hn : d.length = n) (r : Rgt ⟨6, fr, inc, rd, h, pt, ps, d⟩) (hb : Bs w (.slice ad n cap) d) :
    Calls Tryd.prog 29 #[msV ⟨6, fr, inc, rd, h, pt, ps, d⟩ (.slice ad n cap)] w fun e w' => ∃ v', e = .returned v' ∧ Bs w' v' (pay ⟨6, fr, inc, rd, h, pt, ps, d⟩) ∧ Below w.heap.size w w' := by
  obtain ⟨L, hL⟩ : ∃ L, ([inc, rd, pt] : List Int) = L := ⟨_, rfl⟩
  have HL : Hid (L.length = 3 ∧ (∀ x ∈ L, okI x) ∧ pay ⟨6, fr, inc, rd, h, pt, ps, d⟩ = L.flatMap enI ++ [] ∧ (pay ⟨6, fr, inc, rd, h, pt, ps, d⟩).length ≤ 40000) := by
    refine ⟨by rw [← hL]; rfl, ?_, by rw [← hL]; rfl, pay_len r⟩
    have := ints_ok r
    rw [← hL]
    exact this
  have HN : Hid (d.length = n ∧ n ≤ 32768) := ⟨hn, by have h1 := r.d; dsimp only at h1; omega⟩
  have hcnt : IntKind.u64.wrap (n : Int) = (n : Int) := by rw [IntKind.wrap_u64]; have := HN.out; omega
  obtain ⟨wX, hwX⟩ : ∃ wX, wX = (w.alloc (.cells #[.int .i64 6, .int .i64 fr, .int .i64 inc, .int .i64 rd, .int .i64 h, .int .i64 pt, .int .i64 ps, .slice ad n cap] 26)).alloc (.cells #[.int .i64 inc, .int .i64 rd, .int .i64 pt] 3) := ⟨_, rfl⟩
  have HX : Hid (B8 w.heap.size ⟨6, fr, inc, rd, h, pt, ps, d⟩ (.slice ad n cap) wX ∧ Below w.heap.size w wX ∧ Bs wX (.slice ad n cap) d ∧ Is wX (.slice (some ⟨w.heap.size + 1, 0, none⟩) 3 3) L ∧ wX.heap.size = w.heap.size + 2) := by
    rw [hwX, ← hL]
    refine ⟨(B8.new _ _ _ _).later (bel1 _ _), bel2 _ _ _, hb.later (bel2 _ _ _), ?_, by simp⟩
    have := is_list (w.alloc (.cells #[.int .i64 6, .int .i64 fr, .int .i64 inc, .int .i64 rd, .int .i64 h, .int .i64 pt, .int .i64 ps, .slice ad n cap] 26)) [inc, rd, pt] 3 #[.int .i64 inc, .int .i64 rd, .int .i64 pt] rfl (by simp)
    simpa [World.size_alloc] using this
  clear hn r hb hL
  show Calls Tryd.prog 29 #[.agg #[.int .i64 6, .int .i64 fr, .int .i64 inc, .int .i64 rd, .int .i64 h, .int .i64 pt, .int .i64 ps, .slice ad n cap]] w _
  go_enter Tryd.func29, Tryd.ntmps29
  go_upto_region 20 with fail
  rw [← hwX]
  clear hwX
  generalize hbm : w.heap.size = bm at *
  have HBm : Hid (w.heap.size = bm) := hbm
  clear hbm
  go_loopw [4, 5] (fun s4 s5 wr => ∃ (j : Nat), j ≤ 3 ∧ s5 = .int .i64 ((j : Nat) : Int) ∧ Hid (Ob wX.heap.size wr s4 ((L.take j).flatMap enI)) ∧ Hid (Below wX.heap.size wX wr)) (fun _ s5 _ => 3 - (intOf s5).toNat)
  case atStart => exact ⟨0, by omega, rfl, by show Ob wX.heap.size wX _ []; exact ob_nil _ _, Below.refl _ _⟩
  case round =>
    obtain ⟨j, hj, rfl, HO, HB⟩ := hrel
    by_cases hjn : j < 3
    · have hjI : (j : Int) < 3 := by omega
      have hj1 : IntKind.i64.wrap ((j : Int) + 1) = ((j + 1 : Nat) : Int) := by rw [IntKind.wrap_i64]; omega
      have hjL : j < L.length := by rw [HL.out.1]; exact hjn
      obtain ⟨g0, o0, e0, x0⟩ := (HX.out.2.2.2.1.later HB.out).cel j hjL
      cases e0
      rw [Nat.zero_add] at x0
      have HE : Hid ((L.take (j + 1)).flatMap enI = (L.take j).flatMap enI ++ enU (ctI (L.getD j 0))) := by
        show _ = _
        have e : L.getD j 0 = L[j] := by simp [List.getD, hjL]
        rw [List.take_add_one, List.flatMap_append, e]
        simp [hjL, enI]
      have HXj : Hid (okI (L.getD j 0)) := HL.out.2.1 _ (by
        have e : L.getD j 0 = L[j] := by simp [List.getD, hjL]
        rw [e]
        exact List.getElem_mem hjL)
      have HPl : Hid (((L.take j).flatMap enI).length ≤ 40000) := by
        have h1 := HL.out.2.2.2
        have h2 : ((L.take j).flatMap enI).length ≤ (L.flatMap enI).length := by
          conv => rhs; rw [← List.take_append_drop j L, List.flatMap_append, List.length_append]
          omega
        rw [HL.out.2.2.1, List.length_append] at h1
        show _ ≤ _
        omega
      generalize L.getD j 0 = x at *
      go_wp2_with fail
      refine (refCount x HXj.out.1 HXj.out.2 wr).mono ?_
      rintro e w3 ⟨rfl, rfl⟩
      go_wp2_with fail
      refine (refUint (ctI x) (ctI_lt HXj.out.1 HXj.out.2) w3).mono ?_
      rintro e w4 ⟨v4, rfl, hO4, hB4⟩
      have HO4 : Hid (Bs w4 v4 (enU (ctI x)) ∧ Ob wX.heap.size w4 u4 ((L.take j).flatMap enI) ∧ Below wX.heap.size wX w4) := ⟨hO4.bs.1, HO.out.later hB4, bchain HB.out hB4⟩
      obtain ⟨a4, p4, rfl⟩ := hO4.sl
      have H10 : Hid ((enU (ctI x)).length ≤ 10) := enU_ten (ctI_lt HXj.out.1 HXj.out.2)
      generalize enU (ctI x) = S at *
      clear hO4 hB4 x0 HO HB
      go_wp2_with (at_builtin; refine apB rfl _ _ rfl wX.heap.size _ _ rfl HO4.out.2.1 _ S rfl HO4.out.1 (by have := HPl.out; have := H10.out; omega) HO4.out.2.2.size ?_; intro v5 w5 hO5 hg5)
      have HO5 : Hid (Ob wX.heap.size w5 v5 ((L.take (j + 1)).flatMap enI)) := by rw [HE.out]; exact hO5
      have HB5 : Hid (Below wX.heap.size wX w5) := hg5.1 _ HO4.out.2.2
      clear hO5 hg5 HO4
      go_wp2
      go_roundw
      case rel => exact ⟨j + 1, by omega, rfl, HO5, HB5⟩
      case measure => simp only [intOf]; omega
    · have hjI : ¬ (j : Int) < 3 := by omega
      have HO2 : Hid (Ob wX.heap.size wr u4 (L.flatMap enI)) := by have h := HO.out; rw [List.take_of_length_le (by rw [HL.out.1]; omega)] at h; exact h
      obtain ⟨a4, p4, rfl⟩ := HO2.out.sl
      have y := HX.out.1.later HB.out
      have y0 := y.c0
      have y7 := y.c7
      dsimp only at y0 y7
      have HBw : Hid (Below bm w wr) := HX.out.2.1.trans (HB.out.mono (by have := HX.out.2.2.2.2; omega))
      have HF : Hid (pay ⟨6, fr, inc, rd, h, pt, ps, d⟩ = L.flatMap enI) := by show _ = _; rw [HL.out.2.2.1, List.append_nil]
      generalize L.flatMap enI = S at *
      clear HO y
      go_wp2
      go_ret
      refine ⟨_, rfl, by rw [HF.out]; exact HO2.out.bs.1, ?_⟩
      rw [HBm.out]
      exact HBw.out
end Go.Proofs.YtfcbgkcclganmaaDoor
set_option linter.unusedVariables false
set_option linter.unusedSimpArgs false
namespace Go.Proofs.YtfcbgkcclganmaaDoor
open Go.RowKit

set_option maxRecDepth 100000 in
set_option maxHeartbeats 4000000 in
theorem refPayload4 (fr inc rd h pt ps : Int) (d : List Nat) (ad : Option Addr) (n cap : Nat) (w : World) (hn : d.length = n) (r : Rgt ⟨4, fr, inc, rd, h, pt, ps, d⟩) (hb : Bs w (.slice ad n cap) d) :
    Calls Tryd.prog 29 #[msV ⟨4, fr, inc, rd, h, pt, ps, d⟩ (.slice ad n cap)] w fun e w' => ∃ v', e = .returned v' ∧ Bs w' v' (pay ⟨4, fr, inc, rd, h, pt, ps, d⟩) ∧ Below w.heap.size w w' := by
  obtain ⟨L, hL⟩ : ∃ L, ([rd, pt, ps] : List Int) = L := ⟨_, rfl⟩
  have HL : Hid (L.length = 3 ∧ (∀ x ∈ L, okI x) ∧ pay ⟨4, fr, inc, rd, h, pt, ps, d⟩ = L.flatMap enI ++ enB d ∧ (pay ⟨4, fr, inc, rd, h, pt, ps, d⟩).length ≤ 40000) := by
    refine ⟨by rw [← hL]; rfl, ?_, by rw [← hL]; rfl, pay_len r⟩
    have := ints_ok r
    rw [← hL]
    exact this
  have HN : Hid (d.length = n ∧ n ≤ 32768) := ⟨hn, by have h1 := r.d; dsimp only at h1; omega⟩
  have hcnt : IntKind.u64.wrap (n : Int) = (n : Int) := by rw [IntKind.wrap_u64]; have := HN.out; omega
  obtain ⟨wX, hwX⟩ : ∃ wX, wX = (w.alloc (.cells #[.int .i64 4, .int .i64 fr, .int .i64 inc, .int .i64 rd, .int .i64 h, .int .i64 pt, .int .i64 ps, .slice ad n cap] 26)).alloc (.cells #[.int .i64 rd, .int .i64 pt, .int .i64 ps] 3) := ⟨_, rfl⟩
  have HX : Hid (B8 w.heap.size ⟨4, fr, inc, rd, h, pt, ps, d⟩ (.slice ad n cap) wX ∧ Below w.heap.size w wX ∧ Bs wX (.slice ad n cap) d ∧ Is wX (.slice (some ⟨w.heap.size + 1, 0, none⟩) 3 3) L ∧ wX.heap.size = w.heap.size + 2) := by
    rw [hwX, ← hL]
    refine ⟨(B8.new _ _ _ _).later (bel1 _ _), bel2 _ _ _, hb.later (bel2 _ _ _), ?_, by simp⟩
    have := is_list (w.alloc (.cells #[.int .i64 4, .int .i64 fr, .int .i64 inc, .int .i64 rd, .int .i64 h, .int .i64 pt, .int .i64 ps, .slice ad n cap] 26)) [rd, pt, ps] 3 #[.int .i64 rd, .int .i64 pt, .int .i64 ps] rfl (by simp)
    simpa [World.size_alloc] using this
  clear hn r hb hL
  show Calls Tryd.prog 29 #[.agg #[.int .i64 4, .int .i64 fr, .int .i64 inc, .int .i64 rd, .int .i64 h, .int .i64 pt, .int .i64 ps, .slice ad n cap]] w _
  go_enter Tryd.func29, Tryd.ntmps29
  go_upto_region 20 with fail
  rw [← hwX]
  clear hwX
  generalize hbm : w.heap.size = bm at *
  have HBm : Hid (w.heap.size = bm) := hbm
  clear hbm
  go_loopw [4, 5] (fun s4 s5 wr => ∃ (j : Nat), j ≤ 3 ∧ s5 = .int .i64 ((j : Nat) : Int) ∧ Hid (Ob wX.heap.size wr s4 ((L.take j).flatMap enI)) ∧ Hid (Below wX.heap.size wX wr)) (fun _ s5 _ => 3 - (intOf s5).toNat)
  case atStart => exact ⟨0, by omega, rfl, by show Ob wX.heap.size wX _ []; exact ob_nil _ _, Below.refl _ _⟩
  case round =>
    obtain ⟨j, hj, rfl, HO, HB⟩ := hrel
    by_cases hjn : j < 3
    · have hjI : (j : Int) < 3 := by omega
      have hj1 : IntKind.i64.wrap ((j : Int) + 1) = ((j + 1 : Nat) : Int) := by rw [IntKind.wrap_i64]; omega
      have hjL : j < L.length := by rw [HL.out.1]; exact hjn
      obtain ⟨g0, o0, e0, x0⟩ := (HX.out.2.2.2.1.later HB.out).cel j hjL
      cases e0
      rw [Nat.zero_add] at x0
      have HE : Hid ((L.take (j + 1)).flatMap enI = (L.take j).flatMap enI ++ enU (ctI (L.getD j 0))) := by
        show _ = _
        have e : L.getD j 0 = L[j] := by simp [List.getD, hjL]
        rw [List.take_add_one, List.flatMap_append, e]
        simp [hjL, enI]
      have HXj : Hid (okI (L.getD j 0)) := HL.out.2.1 _ (by
        have e : L.getD j 0 = L[j] := by simp [List.getD, hjL]
        rw [e]
        exact List.getElem_mem hjL)
      have HPl : Hid (((L.take j).flatMap enI).length ≤ 40000) := by
        have h1 := HL.out.2.2.2
        have h2 : ((L.take j).flatMap enI).length ≤ (L.flatMap enI).length := by
          conv => rhs; rw [← List.take_append_drop j L, List.flatMap_append, List.length_append]
          omega
        rw [HL.out.2.2.1, List.length_append] at h1
        show _ ≤ _
        omega
      generalize L.getD j 0 = x at *
      go_wp2_with fail
      refine (refCount x HXj.out.1 HXj.out.2 wr).mono ?_
      rintro e w3 ⟨rfl, rfl⟩
      go_wp2_with fail
      refine (refUint (ctI x) (ctI_lt HXj.out.1 HXj.out.2) w3).mono ?_
      rintro e w4 ⟨v4, rfl, hO4, hB4⟩
      have HO4 : Hid (Bs w4 v4 (enU (ctI x)) ∧ Ob wX.heap.size w4 u4 ((L.take j).flatMap enI) ∧ Below wX.heap.size wX w4) := ⟨hO4.bs.1, HO.out.later hB4, bchain HB.out hB4⟩
      obtain ⟨a4, p4, rfl⟩ := hO4.sl
      have H10 : Hid ((enU (ctI x)).length ≤ 10) := enU_ten (ctI_lt HXj.out.1 HXj.out.2)
      generalize enU (ctI x) = S at *
      clear hO4 hB4 x0 HO HB
      go_wp2_with (at_builtin; refine apB rfl _ _ rfl wX.heap.size _ _ rfl HO4.out.2.1 _ S rfl HO4.out.1 (by have := HPl.out; have := H10.out; omega) HO4.out.2.2.size ?_; intro v5 w5 hO5 hg5)
      have HO5 : Hid (Ob wX.heap.size w5 v5 ((L.take (j + 1)).flatMap enI)) := by rw [HE.out]; exact hO5
      have HB5 : Hid (Below wX.heap.size wX w5) := hg5.1 _ HO4.out.2.2
      clear hO5 hg5 HO4
      go_wp2
      go_roundw
      case rel => exact ⟨j + 1, by omega, rfl, HO5, HB5⟩
      case measure => simp only [intOf]; omega
    · have hjI : ¬ (j : Int) < 3 := by omega
      have HO2 : Hid (Ob wX.heap.size wr u4 (L.flatMap enI)) := by have h := HO.out; rw [List.take_of_length_le (by rw [HL.out.1]; omega)] at h; exact h
      obtain ⟨a4, p4, rfl⟩ := HO2.out.sl
      have y := HX.out.1.later HB.out
      have y0 := y.c0
      have y7 := y.c7
      dsimp only at y0 y7
      have HBw : Hid (Below bm w wr) := HX.out.2.1.trans (HB.out.mono (by have := HX.out.2.2.2.2; omega))
      have HF : Hid (pay ⟨4, fr, inc, rd, h, pt, ps, d⟩ = (L.flatMap enI ++ enU n) ++ d) := by show _ = _; rw [HL.out.2.2.1, List.append_assoc]; unfold enB; rw [HN.out.1]
      have HSl : Hid ((L.flatMap enI).length ≤ 40000) := by have h1 := HL.out.2.2.2; rw [HL.out.2.2.1, List.length_append] at h1; show _ ≤ _; omega
      generalize L.flatMap enI = S at *
      clear HO y
      go_wp2_with fail
      refine (refUint n (by have := HN.out; omega) wr).mono ?_
      rintro e w4 ⟨v4, rfl, hO4, hB4⟩
      have HO4 : Hid (Bs w4 v4 (enU n) ∧ Ob wX.heap.size w4 (.slice a4 S.length p4) S ∧ Below wX.heap.size wX w4) := ⟨hO4.bs.1, HO2.out.later hB4, bchain HB.out hB4⟩
      obtain ⟨a5, p5, rfl⟩ := hO4.sl
      have H10 : Hid ((enU n).length ≤ 10) := enU_ten (by have := HN.out; omega)
      generalize enU n = T at *
      obtain ⟨ST, hST⟩ : ∃ ST, S ++ T = ST := ⟨_, rfl⟩
      have HST : Hid (S ++ T = ST ∧ ST.length ≤ 40010) := ⟨hST, by rw [← hST, List.length_append]; have := HSl.out; have := H10.out; omega⟩
      clear hO4 hB4 hST y0 y7
      go_upto_region 25 with (at_builtin; refine apB rfl _ _ rfl wX.heap.size _ _ rfl HO4.out.2.1 _ T rfl HO4.out.1 (by have := HSl.out; have := H10.out; omega) HO4.out.2.2.size ?_; intro v6 w6 hO6 hg6; rw [HST.out.1] at hO6; obtain ⟨a6, p6, rfl⟩ := hO6.sl)
      have HO6 : Hid (Ob wX.heap.size w6 (.slice a6 ST.length p6) ST ∧ Below wX.heap.size wX w6) := ⟨hO6, hg6.1 _ HO4.out.2.2⟩
      have y7 := (HX.out.1.later HO6.out.2).c7
      try dsimp only at y7
      clear hO6 hg6 HO4
      obtain ⟨F, hF⟩ : ∃ F, ST ++ d = F := ⟨_, rfl⟩
      have HF2 : Hid (ST ++ d = F) := hF
      clear hF
      go_wp2_with (at_builtin; refine apB rfl _ _ rfl wX.heap.size _ ST rfl HO6.out.1 _ d rfl (HX.out.2.2.1.later HO6.out.2) (by have := HST.out.2; have := HN.out; omega) HO6.out.2.size ?_; intro v7 w7 hO7 hg7; rw [HF2.out] at hO7; obtain ⟨a7, p7, rfl⟩ := hO7.sl)
      have HO7 : Hid (Bs w7 (.slice a7 F.length p7) F ∧ Below wX.heap.size wX w7) := ⟨hO7.bs.1, hg7.1 _ HO6.out.2⟩
      clear hO7 hg7
      go_ret
      refine ⟨_, rfl, by rw [HF.out, HST.out.1, HF2.out]; exact HO7.out.1, ?_⟩
      rw [HBm.out]
      exact HX.out.2.1.trans (HO7.out.2.mono (by have := HX.out.2.2.2.2; omega))
end Go.Proofs.YtfcbgkcclganmaaDoor
set_option linter.unusedVariables false
set_option linter.unusedSimpArgs false
namespace Go.Proofs.YtfcbgkcclganmaaDoor
open Go.RowKit

set_option maxRecDepth 100000 in
set_option maxHeartbeats 4000000 in
theorem refPayload5 (fr inc rd h pt ps : Int) (d : List Nat) (ad : Option Addr) (n cap : Nat) (w : World) (hn : d.length = n) (r : Rgt ⟨5, fr, inc, rd, h, pt, ps, d⟩) (hb : Bs w (.slice ad n cap) d) :
    Calls Tryd.prog 29 #[msV ⟨5, fr, inc, rd, h, pt, ps, d⟩ (.slice ad n cap)] w fun e w' => ∃ v', e = .returned v' ∧ Bs w' v' (pay ⟨5, fr, inc, rd, h, pt, ps, d⟩) ∧ Below w.heap.size w w' := by
  obtain ⟨L, hL⟩ : ∃ L, ([fr, inc, rd, pt, ps] : List Int) = L := ⟨_, rfl⟩
  have HL : Hid (L.length = 5 ∧ (∀ x ∈ L, okI x) ∧ pay ⟨5, fr, inc, rd, h, pt, ps, d⟩ = L.flatMap enI ++ enB d ∧ (pay ⟨5, fr, inc, rd, h, pt, ps, d⟩).length ≤ 40000) := by
    refine ⟨by rw [← hL]; rfl, ?_, by rw [← hL]; rfl, pay_len r⟩
    have := ints_ok r
    rw [← hL]
    exact this
  have HN : Hid (d.length = n ∧ n ≤ 32768) := ⟨hn, by have h1 := r.d; dsimp only at h1; omega⟩
  have hcnt : IntKind.u64.wrap (n : Int) = (n : Int) := by rw [IntKind.wrap_u64]; have := HN.out; omega
  obtain ⟨wX, hwX⟩ : ∃ wX, wX = (w.alloc (.cells #[.int .i64 5, .int .i64 fr, .int .i64 inc, .int .i64 rd, .int .i64 h, .int .i64 pt, .int .i64 ps, .slice ad n cap] 26)).alloc (.cells #[.int .i64 fr, .int .i64 inc, .int .i64 rd, .int .i64 pt, .int .i64 ps] 3) := ⟨_, rfl⟩
  have HX : Hid (B8 w.heap.size ⟨5, fr, inc, rd, h, pt, ps, d⟩ (.slice ad n cap) wX ∧ Below w.heap.size w wX ∧ Bs wX (.slice ad n cap) d ∧ Is wX (.slice (some ⟨w.heap.size + 1, 0, none⟩) 5 5) L ∧ wX.heap.size = w.heap.size + 2) := by
    rw [hwX, ← hL]
    refine ⟨(B8.new _ _ _ _).later (bel1 _ _), bel2 _ _ _, hb.later (bel2 _ _ _), ?_, by simp⟩
    have := is_list (w.alloc (.cells #[.int .i64 5, .int .i64 fr, .int .i64 inc, .int .i64 rd, .int .i64 h, .int .i64 pt, .int .i64 ps, .slice ad n cap] 26)) [fr, inc, rd, pt, ps] 3 #[.int .i64 fr, .int .i64 inc, .int .i64 rd, .int .i64 pt, .int .i64 ps] rfl (by simp)
    simpa [World.size_alloc] using this
  clear hn r hb hL
  show Calls Tryd.prog 29 #[.agg #[.int .i64 5, .int .i64 fr, .int .i64 inc, .int .i64 rd, .int .i64 h, .int .i64 pt, .int .i64 ps, .slice ad n cap]] w _
  go_enter Tryd.func29, Tryd.ntmps29
  go_upto_region 20 with fail
  rw [← hwX]
  clear hwX
  generalize hbm : w.heap.size = bm at *
  have HBm : Hid (w.heap.size = bm) := hbm
  clear hbm
  go_loopw [4, 5] (fun s4 s5 wr => ∃ (j : Nat), j ≤ 5 ∧ s5 = .int .i64 ((j : Nat) : Int) ∧ Hid (Ob wX.heap.size wr s4 ((L.take j).flatMap enI)) ∧ Hid (Below wX.heap.size wX wr)) (fun _ s5 _ => 5 - (intOf s5).toNat)
  case atStart => exact ⟨0, by omega, rfl, by show Ob wX.heap.size wX _ []; exact ob_nil _ _, Below.refl _ _⟩
  case round =>
    obtain ⟨j, hj, rfl, HO, HB⟩ := hrel
    by_cases hjn : j < 5
    · have hjI : (j : Int) < 5 := by omega
      have hj1 : IntKind.i64.wrap ((j : Int) + 1) = ((j + 1 : Nat) : Int) := by rw [IntKind.wrap_i64]; omega
      have hjL : j < L.length := by rw [HL.out.1]; exact hjn
      obtain ⟨g0, o0, e0, x0⟩ := (HX.out.2.2.2.1.later HB.out).cel j hjL
      cases e0
      rw [Nat.zero_add] at x0
      have HE : Hid ((L.take (j + 1)).flatMap enI = (L.take j).flatMap enI ++ enU (ctI (L.getD j 0))) := by
        show _ = _
        have e : L.getD j 0 = L[j] := by simp [List.getD, hjL]
        rw [List.take_add_one, List.flatMap_append, e]
        simp [hjL, enI]
      have HXj : Hid (okI (L.getD j 0)) := HL.out.2.1 _ (by
        have e : L.getD j 0 = L[j] := by simp [List.getD, hjL]
        rw [e]
        exact List.getElem_mem hjL)
      have HPl : Hid (((L.take j).flatMap enI).length ≤ 40000) := by
        have h1 := HL.out.2.2.2
        have h2 : ((L.take j).flatMap enI).length ≤ (L.flatMap enI).length := by
          conv => rhs; rw [← List.take_append_drop j L, List.flatMap_append, List.length_append]
          omega
        rw [HL.out.2.2.1, List.length_append] at h1
        show _ ≤ _
        omega
      generalize L.getD j 0 = x at *
      go_wp2_with fail
      refine (refCount x HXj.out.1 HXj.out.2 wr).mono ?_
      rintro e w3 ⟨rfl, rfl⟩
      go_wp2_with fail
      refine (refUint (ctI x) (ctI_lt HXj.out.1 HXj.out.2) w3).mono ?_
      rintro e w4 ⟨v4, rfl, hO4, hB4⟩
      have HO4 : Hid (Bs w4 v4 (enU (ctI x)) ∧ Ob wX.heap.size w4 u4 ((L.take j).flatMap enI) ∧ Below wX.heap.size wX w4) := ⟨hO4.bs.1, HO.out.later hB4, bchain HB.out hB4⟩
      obtain ⟨a4, p4, rfl⟩ := hO4.sl
      have H10 : Hid ((enU (ctI x)).length ≤ 10) := enU_ten (ctI_lt HXj.out.1 HXj.out.2)
      generalize enU (ctI x) = S at *
      clear hO4 hB4 x0 HO HB
      go_wp2_with (at_builtin; refine apB rfl _ _ rfl wX.heap.size _ _ rfl HO4.out.2.1 _ S rfl HO4.out.1 (by have := HPl.out; have := H10.out; omega) HO4.out.2.2.size ?_; intro v5 w5 hO5 hg5)
      have HO5 : Hid (Ob wX.heap.size w5 v5 ((L.take (j + 1)).flatMap enI)) := by rw [HE.out]; exact hO5
      have HB5 : Hid (Below wX.heap.size wX w5) := hg5.1 _ HO4.out.2.2
      clear hO5 hg5 HO4
      go_wp2
      go_roundw
      case rel => exact ⟨j + 1, by omega, rfl, HO5, HB5⟩
      case measure => simp only [intOf]; omega
    · have hjI : ¬ (j : Int) < 5 := by omega
      have HO2 : Hid (Ob wX.heap.size wr u4 (L.flatMap enI)) := by have h := HO.out; rw [List.take_of_length_le (by rw [HL.out.1]; omega)] at h; exact h
      obtain ⟨a4, p4, rfl⟩ := HO2.out.sl
      have y := HX.out.1.later HB.out
      have y0 := y.c0
      have y7 := y.c7
      dsimp only at y0 y7
      have HBw : Hid (Below bm w wr) := HX.out.2.1.trans (HB.out.mono (by have := HX.out.2.2.2.2; omega))
      have HF : Hid (pay ⟨5, fr, inc, rd, h, pt, ps, d⟩ = (L.flatMap enI ++ enU n) ++ d) := by show _ = _; rw [HL.out.2.2.1, List.append_assoc]; unfold enB; rw [HN.out.1]
      have HSl : Hid ((L.flatMap enI).length ≤ 40000) := by have h1 := HL.out.2.2.2; rw [HL.out.2.2.1, List.length_append] at h1; show _ ≤ _; omega
      generalize L.flatMap enI = S at *
      clear HO y
      go_wp2_with fail
      refine (refUint n (by have := HN.out; omega) wr).mono ?_
      rintro e w4 ⟨v4, rfl, hO4, hB4⟩
      have HO4 : Hid (Bs w4 v4 (enU n) ∧ Ob wX.heap.size w4 (.slice a4 S.length p4) S ∧ Below wX.heap.size wX w4) := ⟨hO4.bs.1, HO2.out.later hB4, bchain HB.out hB4⟩
      obtain ⟨a5, p5, rfl⟩ := hO4.sl
      have H10 : Hid ((enU n).length ≤ 10) := enU_ten (by have := HN.out; omega)
      generalize enU n = T at *
      obtain ⟨ST, hST⟩ : ∃ ST, S ++ T = ST := ⟨_, rfl⟩
      have HST : Hid (S ++ T = ST ∧ ST.length ≤ 40010) := ⟨hST, by rw [← hST, List.length_append]; have := HSl.out; have := H10.out; omega⟩
      clear hO4 hB4 hST y0 y7
      go_upto_region 25 with (at_builtin; refine apB rfl _ _ rfl wX.heap.size _ _ rfl HO4.out.2.1 _ T rfl HO4.out.1 (by have := HSl.out; have := H10.out; omega) HO4.out.2.2.size ?_; intro v6 w6 hO6 hg6; rw [HST.out.1] at hO6; obtain ⟨a6, p6, rfl⟩ := hO6.sl)
      have HO6 : Hid (Ob wX.heap.size w6 (.slice a6 ST.length p6) ST ∧ Below wX.heap.size wX w6) := ⟨hO6, hg6.1 _ HO4.out.2.2⟩
      have y7 := (HX.out.1.later HO6.out.2).c7
      try dsimp only at y7
      clear hO6 hg6 HO4
      obtain ⟨F, hF⟩ : ∃ F, ST ++ d = F := ⟨_, rfl⟩
      have HF2 : Hid (ST ++ d = F) := hF
      clear hF
      go_wp2_with (at_builtin; refine apB rfl _ _ rfl wX.heap.size _ ST rfl HO6.out.1 _ d rfl (HX.out.2.2.1.later HO6.out.2) (by have := HST.out.2; have := HN.out; omega) HO6.out.2.size ?_; intro v7 w7 hO7 hg7; rw [HF2.out] at hO7; obtain ⟨a7, p7, rfl⟩ := hO7.sl)
      have HO7 : Hid (Bs w7 (.slice a7 F.length p7) F ∧ Below wX.heap.size wX w7) := ⟨hO7.bs.1, hg7.1 _ HO6.out.2⟩
      clear hO7 hg7
      go_ret
      refine ⟨_, rfl, by rw [HF.out, HST.out.1, HF2.out]; exact HO7.out.1, ?_⟩
      rw [HBm.out]
      exact HX.out.2.1.trans (HO7.out.2.mono (by have := HX.out.2.2.2.2; omega))
end Go.Proofs.YtfcbgkcclganmaaDoor
set_option linter.unusedVariables false
set_option linter.unusedSimpArgs false
namespace Go.Proofs.YtfcbgkcclganmaaDoor
open Go.RowKit

set_option maxRecDepth 100000 in
set_option maxHeartbeats 4000000 in
theorem refPayload7 (fr inc rd h pt ps : Int) (d : List Nat) (ad : Option Addr) (n cap : Nat) (w : World) (hn : d.length = n) (r : Rgt ⟨7, fr, inc, rd, h, pt, ps, d⟩) (hb : Bs w (.slice ad n cap) d) :
    Calls Tryd.prog 29 #[msV ⟨7, fr, inc, rd, h, pt, ps, d⟩ (.slice ad n cap)] w fun e w' => ∃ v', e = .returned v' ∧ Bs w' v' (pay ⟨7, fr, inc, rd, h, pt, ps, d⟩) ∧ Below w.heap.size w w' := by
  obtain ⟨L, hL⟩ : ∃ L, ([inc, rd] : List Int) = L := ⟨_, rfl⟩
  have HL : Hid (L.length = 2 ∧ (∀ x ∈ L, okI x) ∧ pay ⟨7, fr, inc, rd, h, pt, ps, d⟩ = L.flatMap enI ++ [] ∧ (pay ⟨7, fr, inc, rd, h, pt, ps, d⟩).length ≤ 40000) := by
    refine ⟨by rw [← hL]; rfl, ?_, by rw [← hL]; rfl, pay_len r⟩
    have := ints_ok r
    rw [← hL]
    exact this
  have HN : Hid (d.length = n ∧ n ≤ 32768) := ⟨hn, by have h1 := r.d; dsimp only at h1; omega⟩
  have hcnt : IntKind.u64.wrap (n : Int) = (n : Int) := by rw [IntKind.wrap_u64]; have := HN.out; omega
  obtain ⟨wX, hwX⟩ : ∃ wX, wX = (w.alloc (.cells #[.int .i64 7, .int .i64 fr, .int .i64 inc, .int .i64 rd, .int .i64 h, .int .i64 pt, .int .i64 ps, .slice ad n cap] 26)).alloc (.cells #[.int .i64 inc, .int .i64 rd] 3) := ⟨_, rfl⟩
  have HX : Hid (B8 w.heap.size ⟨7, fr, inc, rd, h, pt, ps, d⟩ (.slice ad n cap) wX ∧ Below w.heap.size w wX ∧ Bs wX (.slice ad n cap) d ∧ Is wX (.slice (some ⟨w.heap.size + 1, 0, none⟩) 2 2) L ∧ wX.heap.size = w.heap.size + 2) := by
    rw [hwX, ← hL]
    refine ⟨(B8.new _ _ _ _).later (bel1 _ _), bel2 _ _ _, hb.later (bel2 _ _ _), ?_, by simp⟩
    have := is_list (w.alloc (.cells #[.int .i64 7, .int .i64 fr, .int .i64 inc, .int .i64 rd, .int .i64 h, .int .i64 pt, .int .i64 ps, .slice ad n cap] 26)) [inc, rd] 3 #[.int .i64 inc, .int .i64 rd] rfl (by simp)
    simpa [World.size_alloc] using this
  clear hn r hb hL
  show Calls Tryd.prog 29 #[.agg #[.int .i64 7, .int .i64 fr, .int .i64 inc, .int .i64 rd, .int .i64 h, .int .i64 pt, .int .i64 ps, .slice ad n cap]] w _
  go_enter Tryd.func29, Tryd.ntmps29
  go_upto_region 20 with fail
  rw [← hwX]
  clear hwX
  generalize hbm : w.heap.size = bm at *
  have HBm : Hid (w.heap.size = bm) := hbm
  clear hbm
  go_loopw [4, 5] (fun s4 s5 wr => ∃ (j : Nat), j ≤ 2 ∧ s5 = .int .i64 ((j : Nat) : Int) ∧ Hid (Ob wX.heap.size wr s4 ((L.take j).flatMap enI)) ∧ Hid (Below wX.heap.size wX wr)) (fun _ s5 _ => 2 - (intOf s5).toNat)
  case atStart => exact ⟨0, by omega, rfl, by show Ob wX.heap.size wX _ []; exact ob_nil _ _, Below.refl _ _⟩
  case round =>
    obtain ⟨j, hj, rfl, HO, HB⟩ := hrel
    by_cases hjn : j < 2
    · have hjI : (j : Int) < 2 := by omega
      have hj1 : IntKind.i64.wrap ((j : Int) + 1) = ((j + 1 : Nat) : Int) := by rw [IntKind.wrap_i64]; omega
      have hjL : j < L.length := by rw [HL.out.1]; exact hjn
      obtain ⟨g0, o0, e0, x0⟩ := (HX.out.2.2.2.1.later HB.out).cel j hjL
      cases e0
      rw [Nat.zero_add] at x0
      have HE : Hid ((L.take (j + 1)).flatMap enI = (L.take j).flatMap enI ++ enU (ctI (L.getD j 0))) := by
        show _ = _
        have e : L.getD j 0 = L[j] := by simp [List.getD, hjL]
        rw [List.take_add_one, List.flatMap_append, e]
        simp [hjL, enI]
      have HXj : Hid (okI (L.getD j 0)) := HL.out.2.1 _ (by
        have e : L.getD j 0 = L[j] := by simp [List.getD, hjL]
        rw [e]
        exact List.getElem_mem hjL)
      have HPl : Hid (((L.take j).flatMap enI).length ≤ 40000) := by
        have h1 := HL.out.2.2.2
        have h2 : ((L.take j).flatMap enI).length ≤ (L.flatMap enI).length := by
          conv => rhs; rw [← List.take_append_drop j L, List.flatMap_append, List.length_append]
          omega
        rw [HL.out.2.2.1, List.length_append] at h1
        show _ ≤ _
        omega
      generalize L.getD j 0 = x at *
      go_wp2_with fail
      refine (refCount x HXj.out.1 HXj.out.2 wr).mono ?_
      rintro e w3 ⟨rfl, rfl⟩
      go_wp2_with fail
      refine (refUint (ctI x) (ctI_lt HXj.out.1 HXj.out.2) w3).mono ?_
      rintro e w4 ⟨v4, rfl, hO4, hB4⟩
      have HO4 : Hid (Bs w4 v4 (enU (ctI x)) ∧ Ob wX.heap.size w4 u4 ((L.take j).flatMap enI) ∧ Below wX.heap.size wX w4) := ⟨hO4.bs.1, HO.out.later hB4, bchain HB.out hB4⟩
      obtain ⟨a4, p4, rfl⟩ := hO4.sl
      have H10 : Hid ((enU (ctI x)).length ≤ 10) := enU_ten (ctI_lt HXj.out.1 HXj.out.2)
      generalize enU (ctI x) = S at *
      clear hO4 hB4 x0 HO HB
      go_wp2_with (at_builtin; refine apB rfl _ _ rfl wX.heap.size _ _ rfl HO4.out.2.1 _ S rfl HO4.out.1 (by have := HPl.out; have := H10.out; omega) HO4.out.2.2.size ?_; intro v5 w5 hO5 hg5)
      have HO5 : Hid (Ob wX.heap.size w5 v5 ((L.take (j + 1)).flatMap enI)) := by rw [HE.out]; exact hO5
      have HB5 : Hid (Below wX.heap.size wX w5) := hg5.1 _ HO4.out.2.2
      clear hO5 hg5 HO4
      go_wp2
      go_roundw
      case rel => exact ⟨j + 1, by omega, rfl, HO5, HB5⟩
      case measure => simp only [intOf]; omega
    · have hjI : ¬ (j : Int) < 2 := by omega
      have HO2 : Hid (Ob wX.heap.size wr u4 (L.flatMap enI)) := by have h := HO.out; rw [List.take_of_length_le (by rw [HL.out.1]; omega)] at h; exact h
      obtain ⟨a4, p4, rfl⟩ := HO2.out.sl
      have y := HX.out.1.later HB.out
      have y0 := y.c0
      have y7 := y.c7
      dsimp only at y0 y7
      have HBw : Hid (Below bm w wr) := HX.out.2.1.trans (HB.out.mono (by have := HX.out.2.2.2.2; omega))
      have HF : Hid (pay ⟨7, fr, inc, rd, h, pt, ps, d⟩ = L.flatMap enI) := by show _ = _; rw [HL.out.2.2.1, List.append_nil]
      generalize L.flatMap enI = S at *
      clear HO y
      go_wp2
      go_ret
      refine ⟨_, rfl, by rw [HF.out]; exact HO2.out.bs.1, ?_⟩
      rw [HBm.out]
      exact HBw.out
set_option maxRecDepth 100000 in
set_option maxHeartbeats 4000000 in
theorem refPayload8 (fr inc rd h pt ps : Int) (d : List Nat) (ad : Option Addr) (n cap : Nat) (w : World) (hn : d.length = n) (r : Rgt ⟨8, fr, inc, rd, h, pt, ps, d⟩) (hb : Bs w (.slice ad n cap) d) :
    Calls Tryd.prog 29 #[msV ⟨8, fr, inc, rd, h, pt, ps, d⟩ (.slice ad n cap)] w fun e w' => ∃ v', e = .returned v' ∧ Bs w' v' (pay ⟨8, fr, inc, rd, h, pt, ps, d⟩) ∧ Below w.heap.size w w' := by
  obtain ⟨L, hL⟩ : ∃ L, ([fr, inc] : List Int) = L := ⟨_, rfl⟩
  have HL : Hid (L.length = 2 ∧ (∀ x ∈ L, okI x) ∧ pay ⟨8, fr, inc, rd, h, pt, ps, d⟩ = L.flatMap enI ++ [] ∧ (pay ⟨8, fr, inc, rd, h, pt, ps, d⟩).length ≤ 40000) := by
    refine ⟨by rw [← hL]; rfl, ?_, by rw [← hL]; rfl, pay_len r⟩
    have := ints_ok r
    rw [← hL]
    exact this
  have HN : Hid (d.length = n ∧ n ≤ 32768) := ⟨hn, by have h1 := r.d; dsimp only at h1; omega⟩
  have hcnt : IntKind.u64.wrap (n : Int) = (n : Int) := by rw [IntKind.wrap_u64]; have := HN.out; omega
  obtain ⟨wX, hwX⟩ : ∃ wX, wX = (w.alloc (.cells #[.int .i64 8, .int .i64 fr, .int .i64 inc, .int .i64 rd, .int .i64 h, .int .i64 pt, .int .i64 ps, .slice ad n cap] 26)).alloc (.cells #[.int .i64 fr, .int .i64 inc] 3) := ⟨_, rfl⟩
  have HX : Hid (B8 w.heap.size ⟨8, fr, inc, rd, h, pt, ps, d⟩ (.slice ad n cap) wX ∧ Below w.heap.size w wX ∧ Bs wX (.slice ad n cap) d ∧ Is wX (.slice (some ⟨w.heap.size + 1, 0, none⟩) 2 2) L ∧ wX.heap.size = w.heap.size + 2) := by
    rw [hwX, ← hL]
    refine ⟨(B8.new _ _ _ _).later (bel1 _ _), bel2 _ _ _, hb.later (bel2 _ _ _), ?_, by simp⟩
    have := is_list (w.alloc (.cells #[.int .i64 8, .int .i64 fr, .int .i64 inc, .int .i64 rd, .int .i64 h, .int .i64 pt, .int .i64 ps, .slice ad n cap] 26)) [fr, inc] 3 #[.int .i64 fr, .int .i64 inc] rfl (by simp)
    simpa [World.size_alloc] using this
  clear hn r hb hL
  show Calls Tryd.prog 29 #[.agg #[.int .i64 8, .int .i64 fr, .int .i64 inc, .int .i64 rd, .int .i64 h, .int .i64 pt, .int .i64 ps, .slice ad n cap]] w _
  go_enter Tryd.func29, Tryd.ntmps29
  go_upto_region 20 with fail
  rw [← hwX]
  clear hwX
  generalize hbm : w.heap.size = bm at *
  have HBm : Hid (w.heap.size = bm) := hbm
  clear hbm
  go_loopw [4, 5] (fun s4 s5 wr => ∃ (j : Nat), j ≤ 2 ∧ s5 = .int .i64 ((j : Nat) : Int) ∧ Hid (Ob wX.heap.size wr s4 ((L.take j).flatMap enI)) ∧ Hid (Below wX.heap.size wX wr)) (fun _ s5 _ => 2 - (intOf s5).toNat)
  case atStart => exact ⟨0, by omega, rfl, by show Ob wX.heap.size wX _ []; exact ob_nil _ _, Below.refl _ _⟩
  case round =>
    obtain ⟨j, hj, rfl, HO, HB⟩ := hrel
    by_cases hjn : j < 2
    · have hjI : (j : Int) < 2 := by omega
      have hj1 : IntKind.i64.wrap ((j : Int) + 1) = ((j + 1 : Nat) : Int) := by rw [IntKind.wrap_i64]; omega
      have hjL : j < L.length := by rw [HL.out.1]; exact hjn
      obtain ⟨g0, o0, e0, x0⟩ := (HX.out.2.2.2.1.later HB.out).cel j hjL
      cases e0
      rw [Nat.zero_add] at x0
      have HE : Hid ((L.take (j + 1)).flatMap enI = (L.take j).flatMap enI ++ enU (ctI (L.getD j 0))) := by
        show _ = _
        have e : L.getD j 0 = L[j] := by simp [List.getD, hjL]
        rw [List.take_add_one, List.flatMap_append, e]
        simp [hjL, enI]
      have HXj : Hid (okI (L.getD j 0)) := HL.out.2.1 _ (by
        have e : L.getD j 0 = L[j] := by simp [List.getD, hjL]
        rw [e]
        exact List.getElem_mem hjL)
      have HPl : Hid (((L.take j).flatMap enI).length ≤ 40000) := by
        have h1 := HL.out.2.2.2
        have h2 : ((L.take j).flatMap enI).length ≤ (L.flatMap enI).length := by
          conv => rhs; rw [← List.take_append_drop j L, List.flatMap_append, List.length_append]
          omega
        rw [HL.out.2.2.1, List.length_append] at h1
        show _ ≤ _
        omega
      generalize L.getD j 0 = x at *
      go_wp2_with fail
      refine (refCount x HXj.out.1 HXj.out.2 wr).mono ?_
      rintro e w3 ⟨rfl, rfl⟩
      go_wp2_with fail
      refine (refUint (ctI x) (ctI_lt HXj.out.1 HXj.out.2) w3).mono ?_
      rintro e w4 ⟨v4, rfl, hO4, hB4⟩
      have HO4 : Hid (Bs w4 v4 (enU (ctI x)) ∧ Ob wX.heap.size w4 u4 ((L.take j).flatMap enI) ∧ Below wX.heap.size wX w4) := ⟨hO4.bs.1, HO.out.later hB4, bchain HB.out hB4⟩
      obtain ⟨a4, p4, rfl⟩ := hO4.sl
      have H10 : Hid ((enU (ctI x)).length ≤ 10) := enU_ten (ctI_lt HXj.out.1 HXj.out.2)
      generalize enU (ctI x) = S at *
      clear hO4 hB4 x0 HO HB
      go_wp2_with (at_builtin; refine apB rfl _ _ rfl wX.heap.size _ _ rfl HO4.out.2.1 _ S rfl HO4.out.1 (by have := HPl.out; have := H10.out; omega) HO4.out.2.2.size ?_; intro v5 w5 hO5 hg5)
      have HO5 : Hid (Ob wX.heap.size w5 v5 ((L.take (j + 1)).flatMap enI)) := by rw [HE.out]; exact hO5
      have HB5 : Hid (Below wX.heap.size wX w5) := hg5.1 _ HO4.out.2.2
      clear hO5 hg5 HO4
      go_wp2
      go_roundw
      case rel => exact ⟨j + 1, by omega, rfl, HO5, HB5⟩
      case measure => simp only [intOf]; omega
    · have hjI : ¬ (j : Int) < 2 := by omega
      have HO2 : Hid (Ob wX.heap.size wr u4 (L.flatMap enI)) := by have h := HO.out; rw [List.take_of_length_le (by rw [HL.out.1]; omega)] at h; exact h
      obtain ⟨a4, p4, rfl⟩ := HO2.out.sl
      have y := HX.out.1.later HB.out
      have y0 := y.c0
      have y7 := y.c7
      dsimp only at y0 y7
      have HBw : Hid (Below bm w wr) := HX.out.2.1.trans (HB.out.mono (by have := HX.out.2.2.2.2; omega))
      have HF : Hid (pay ⟨8, fr, inc, rd, h, pt, ps, d⟩ = L.flatMap enI) := by show _ = _; rw [HL.out.2.2.1, List.append_nil]
      generalize L.flatMap enI = S at *
      clear HO y
      go_wp2
      go_ret
      refine ⟨_, rfl, by rw [HF.out]; exact HO2.out.bs.1, ?_⟩
      rw [HBm.out]
      exact HBw.out
end Go.Proofs.YtfcbgkcclganmaaDoor
