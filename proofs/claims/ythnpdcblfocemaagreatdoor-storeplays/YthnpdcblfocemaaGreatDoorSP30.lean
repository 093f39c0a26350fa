/-
  Texts of this proof, joined: SqK.
-/
import Derived.Test.YthnpdcblfocemaaGreatDoorSP29
set_option linter.unusedVariables false
set_option linter.unusedSimpArgs false
namespace Go.Proofs.YthnpdcblfocemaaGreatDoor
open Go.RowKit

theorem slC_one (g which a room : Nat) (h : List Nat) : ∀ u ∈ slC g which a room h, u.oneCell' = true := by
  intro u hu
  unfold slC at hu
  simp only [List.mem_cons] at hu
  rcases hu with rfl | rfl | rfl | rfl | hu
  · rfl
  · rfl
  · rfl
  · rfl
  · exact b8_one h u hu
theorem slZ_len : slZ.length = 132 := by simp [slZ, b8_len, zr_len]
theorem bs_range16 {w : World} {b o n cap : Nat} {l : List Nat} (h : Bs w (.slice (some ⟨b, o, none⟩) n cap) l) : w.rangeAt b o (b8 l) := by
  intro j v hv
  have hj : j < l.length := by have := (List.getElem?_eq_some_iff.1 hv).1; rw [b8_len] at this; exact this
  obtain ⟨b', o', e, hc⟩ := h.cel j hj
  cases e
  rw [b8_cell l j hj] at hv
  rw [← hv]
  exact hc
theorem range_later16 {w w' : World} {b o : Nat} {cs : List Value} (h : w.rangeAt b o cs) (k : Below w.heap.size w w') : w'.rangeAt b o cs := fun j v hv => cell_later k (h j v hv)
structure Hw16 (w : World) (B B1 B6 g which a room : Nat) (h : List Nat) (X : World) : Prop where
  b : Hv16 w B B1 g which a room X
  v : Vb X B6 153 (slC g which a room h)
theorem Hw16.later {w : World} {B B1 B6 g which a room : Nat} {h : List Nat} {X X' : World} (H : Hw16 w B B1 B6 g which a room h X) (k : Below X.heap.size X X') : Hw16 w B B1 B6 g which a room h X' := ⟨H.b.later k, H.v.later k⟩
def Hz16 (B B6 g which a room : Nat) (h : List Nat) (W : World) : Prop :=
  (W.cell? ⟨B, 0, none⟩ = some (.pointer (some ⟨g, 0, none⟩)) ∧ W.cell? ⟨B, 1, none⟩ = some (.int .i64 (which : Int)) ∧ W.cell? ⟨B, 2, none⟩ = some (.int .i64 (a : Int)) ∧ W.cell? ⟨B, 3, none⟩ = some (.int .i64 (room : Int))) ∧
  (W.cell? ⟨B6, 0, none⟩ = some (.pointer (some ⟨g, 0, none⟩)) ∧ W.cell? ⟨B6, 1, none⟩ = some (.int .i64 (which : Int)) ∧ W.cell? ⟨B6, 2, none⟩ = some (.int .i64 (a : Int)) ∧ W.cell? ⟨B6, 3, none⟩ = some (.int .i64 (room : Int))) ∧ Vb W B6 153 (slC g which a room h)
theorem Hw16.z {w : World} {B B1 B6 g which a room : Nat} {h : List Nat} {X : World} (H : Hw16 w B B1 B6 g which a room h X) : Hz16 B B6 g which a room h X :=
  ⟨⟨H.b.x0, H.b.x1, H.b.x2, H.b.x3⟩, ⟨H.v.cell 0 _ rfl, H.v.cell 1 _ rfl, H.v.cell 2 _ rfl, H.v.cell 3 _ rfl⟩, H.v⟩
theorem Hz16.kp {B B1 B6 g which a room : Nat} {h : List Nat} {X X' : World} (H : Hz16 B B6 g which a room h X) (k : Kp (fun k => k = B1) X X') (h1 : B < B1 ∧ B1 < B6) : Hz16 B B6 g which a room h X' := by
  have n1 : ¬ (B = B1) := by omega
  have n2 : ¬ (B6 = B1) := by omega
  obtain ⟨⟨c0, c1, c2, c3⟩, ⟨d0, d1, d2, d3⟩, v⟩ := H
  exact ⟨⟨k.cell n1 c0, k.cell n1 c1, k.cell n1 c2, k.cell n1 c3⟩, ⟨k.cell n2 d0, k.cell n2 d1, k.cell n2 d2, k.cell n2 d3⟩, v.kept (k.block _ v.lt n2)⟩
theorem yields_hd16 {ops : Array Oper} {o : Oper} {a : Act} (hw : Region.wanted o (yielded ops a.tmps) = true) (x : Operand) (ho : o.op = .load 150 x) (B B6 g which at_ room : Nat) (h : List Nat) (hh : h.length = 128) (hx : a.eval x = .pointer (some ⟨B6, 4, none⟩)) :
    YieldsIf Tryz.prog ops (Hz16 B B6 g which at_ room h) o (bkV h) a :=
  yieldsIf_load_mid hw 150 x ho B6 4 hx (b8 h) _ (fun W hW => Vb.range hW.2.2 4 (b8 h) (slC_row g which at_ room h)) und_hd16 rfl (by rw [b8_len, hh]; exact sz_hd16)
set_option maxRecDepth 100000 in
set_option maxHeartbeats 8000000 in
theorem heldU16 (V : Disk1) (w : World) (g : Nat) (F : Nat → Prop) (s : Dsk) (at_ which a room : Nat) (hA : slA at_ room which = a) (hD : V.Dt w (.pointer (some ⟨g, 0, none⟩)) F s) (hT : TbAt w) (hd : s.dn = false) (hw : which < 2) (hr : a + 1 + room ≤ s.bl.length) (hbl : s.bl.length ≤ 1000) (hrm : room ≤ 500) :
    Calls Tryz.prog 83 #[.agg #[.pointer (some ⟨g, 0, none⟩), .int .i64 (which : Int), .int .i64 (a : Int), .int .i64 (room : Int)]] w (HdR w (slt (rb s) at_ room which).2 0 (slt (rb s) at_ room which).1) := by
  have hz := zero_tx16
  have hok := V.dtO hD
  have hh := (okD_rb hok hd a (by omega)).2
  have hask := (okD_rb hok hd a (by omega)).1
  obtain ⟨h, hh0⟩ : ∃ h, rb s a = h := ⟨_, rfl⟩
  rw [hh0] at hh
  have hSl : slt (rb s) at_ room which = if whl h which room then (if sm ((sdat (rb s) a room).take (gt h 8 8)) = gt h 16 4 then ((sdat (rb s) a room).take (gt h 8 8), gt h 0 8) else ([], 0)) else ([], 0) := by unfold slt; rw [hA, hh0]
  obtain ⟨R, hR⟩ : ∃ R, slt (rb s) at_ room which = R := ⟨_, rfl⟩
  rw [hR] at hSl ⊢
  have HSl : Hid (R = if whl h which room then (if sm ((sdat (rb s) a room).take (gt h 8 8)) = gt h 16 4 then ((sdat (rb s) a room).take (gt h 8 8), gt h 0 8) else ([], 0)) else ([], 0)) := hSl
  have HH : Hid (okb h ∧ rdB s (a : Int) = h) := ⟨hh, hh0⟩
  obtain ⟨w1, hw1, hs1, hb1, hnew⟩ := hv_new w g which a room hT
  have HD : Hid (V.Dt w (.pointer (some ⟨g, 0, none⟩)) F s ∧ dAsk s (a : Int) = 0 ∧ Below w.heap.size w w1) := ⟨hD, hask, hb1⟩
  have HU : Hid (s.dn = false ∧ which < 2 ∧ a + 1 + room ≤ s.bl.length ∧ s.bl.length ≤ 1000 ∧ room ≤ 500 ∧ ∀ i, i < room → (rb s (a + 1 + i)).length = 128) := ⟨hd, hw, hr, hbl, hrm, fun i hi => (okD_rb hok hd (a + 1 + i) (by omega)).2.1⟩
  clear hD hT hd hb1 hA hw hr hbl hrm hok hh hask hSl hR hh0
  go_enter Tryz.func83, Tryz.ntmps83
  go_upto_region 1 with (rw [← hw1]; refine alV rfl 128 tz16 hz rfl ?_; intro w2 hV2 hB2 hS2)
  obtain ⟨B1, hB1⟩ : ∃ B1, w.heap.size + 1 = B1 := ⟨_, rfl⟩
  have HB1 : Hid (w.heap.size < B1) := by show _ < _; omega
  have HV : Hid (Hv16 w w.heap.size B1 g which a room w2) := by rw [← hB1, ← hs1]; exact hnew w2 hV2 hB2
  have hbw := bchain HD.out.2.2 hB2
  have C := V.read w2 _ F s (a : Int) (V.dtK HD.out.1 (fun i hi => hbw.block i (V.dtB HD.out.1 i hi)) hbw.size)
  rw [HD.out.2.1, HH.out.2] at C
  have x0 := HV.out.x0
  have x2 := HV.out.x2
  rw [hB1]
  obtain ⟨B, hB⟩ : ∃ B, w.heap.size = B := ⟨_, rfl⟩
  have HB : Hid (w.heap.size = B) := hB
  rw [hB] at HV HB1 x0 x2 ⊢
  clear hw1 hs1 hnew hV2 hB2 hS2 hB1 hbw hz hB
  go_upto_region 2 with (go_at_call 87; refine C.mono ?_; rintro e w3 ⟨v7, rfl, hL7, -, hB7⟩; clear C)
  have HV3 : Hid (Hv16 w B B1 g which a room w3) := HV.out.later hB7
  obtain ⟨ad7, cap7, e7, l1, l2⟩ := hL7.len
  rw [HH.out.1.1] at e7 l1
  subst e7
  obtain ⟨b7, o7, rfl, -⟩ := hL7.cel 0 (by have := HH.out.1.1; omega)
  have HR3 : Hid (w3.rangeAt b7 o7 (b8 h)) := bs_range16 hL7
  have har : ∀ W : World, (Instr.arrayAt 150 (.slice (some ⟨b7, o7, none⟩) 128 cap7)).run Tryz.prog W = .ok (.pointer (some ⟨b7, o7, none⟩)) W := fun W => run_arrayAt W 150 5 128 _ _ _ und_hd16 (Nat.le_refl _)
  clear hL7 hB7 x0 x2 HV l1 l2
  go_upto_region 4 with fail
  refine wp_region_held_drew (S := fun W => (W.cell? ⟨B, 0, none⟩ = some (.pointer (some ⟨g, 0, none⟩)) ∧ W.cell? ⟨B, 1, none⟩ = some (.int .i64 (which : Int)) ∧ W.cell? ⟨B, 2, none⟩ = some (.int .i64 (a : Int)) ∧ W.cell? ⟨B, 3, none⟩ = some (.int .i64 (room : Int))) ∧ W.rangeAt b7 o7 (b8 h)) (by kernel_rfl) ⟨⟨HV3.out.x0, HV3.out.x1, HV3.out.x2, HV3.out.x3⟩, HR3.out⟩ (fun HS => ?_)
  have HV4 : Hid (Hv16 w B B1 g which a room w3.drew) := HV3.out.later (Below.refl _ _).drew
  have HS0 := HS
  clear HV3 HR3
  generalize w3.drew = q0 at *
  refine wpAnyH_take (i := 0) (v := ?v1) rfl (by kernel_rfl) (by kernel_rfl) (by kernel_rfl) (fun _ _ _ h => h) (Or.inl ⟨by kernel_rfl, ?h1⟩) HS ?r1
  case h1 => (rintro w ⟨⟨n0, n1, n2, n3⟩, n4⟩; go_simp) <;> with_reducible rfl
  try simp only [Act.put, List.getElem_toArray, List.getElem_cons_succ, List.getElem_cons_zero, List.setIfInBounds_toArray, List.set_cons_zero, List.set_cons_succ]
  refine wpAnyH_take (i := 1) (v := ?v2) rfl (by kernel_rfl) (by kernel_rfl) (by kernel_rfl) (fun _ _ _ h => h) (Or.inl ⟨by kernel_rfl, ?h2⟩) HS ?r2
  case h2 => (rintro w ⟨⟨n0, n1, n2, n3⟩, n4⟩; go_simp) <;> with_reducible rfl
  try simp only [Act.put, List.getElem_toArray, List.getElem_cons_succ, List.getElem_cons_zero, List.setIfInBounds_toArray, List.set_cons_zero, List.set_cons_succ]
  refine wpAnyH_take (i := 2) (v := ?v3) rfl (by kernel_rfl) (by kernel_rfl) (by kernel_rfl) (fun _ _ _ h => h) (Or.inl ⟨by kernel_rfl, ?h3⟩) HS ?r3
  case h3 => (rintro w ⟨⟨n0, n1, n2, n3⟩, n4⟩; go_simp) <;> with_reducible rfl
  try simp only [Act.put, List.getElem_toArray, List.getElem_cons_succ, List.getElem_cons_zero, List.setIfInBounds_toArray, List.set_cons_zero, List.set_cons_succ]
  refine wpAnyH_take (i := 3) (v := bkV h) rfl (by kernel_rfl) (by kernel_rfl) (by kernel_rfl) (fun _ _ _ h => h) (yieldsIf_load_mid (by kernel_rfl) 150 _ rfl b7 o7 rfl (b8 h) _ (fun W hW => hW.2) und_hd16 rfl (by rw [b8_len, HH.out.1.1]; exact sz_hd16)) HS ?_
  try simp only [Act.put, List.getElem_toArray, List.getElem_cons_succ, List.getElem_cons_zero, List.setIfInBounds_toArray, List.set_cons_zero, List.set_cons_succ]
  refine wpAnyH_take (i := 4) (v := .agg (slC g which a room h).toArray) rfl (by kernel_rfl) (by kernel_rfl) (by kernel_rfl) (fun _ _ _ h => h) (yields_bdSl (by kernel_rfl) _ _ rfl g which a room h HH.out.1.1 rfl rfl) HS ?_
  try simp only [Act.put, List.getElem_toArray, List.getElem_cons_succ, List.getElem_cons_zero, List.setIfInBounds_toArray, List.set_cons_zero, List.set_cons_succ]
  refine wpAnyH_ready (rs := [5]) (by kernel_rfl) (by simp) ?_
  refine AllReadyH.cons rfl (fun K hK => ?_) AllReadyH.nil
  refine alS16 rfl 153 slZ zero_sl16 rfl ?_
  intro q1 hV5 hB5 hS5
  have HS1 := (⟨⟨cell_later hB5 HS0.1.1, cell_later hB5 HS0.1.2.1, cell_later hB5 HS0.1.2.2.1, cell_later hB5 HS0.1.2.2.2⟩, range_later16 HS0.2 hB5⟩ : (_ ∧ _ ∧ _ ∧ _) ∧ _)
  refine hK.out _ _ HS1 (fun HS => ?_)
  clear hK K
  try simp only [Act.put, List.getElem_toArray, List.getElem_cons_succ, List.getElem_cons_zero, List.setIfInBounds_toArray, List.set_cons_zero, List.set_cons_succ]
  obtain ⟨B6, hB6⟩ : ∃ B6, q0.heap.size = B6 := ⟨_, rfl⟩
  have hB6k : Below q0.heap.size q0 q1 := hB5
  have HB6 : Hid (B < B1 ∧ B1 < B6) := ⟨HB1.out, by rw [← hB6]; exact HV4.out.r.lt⟩
  rw [hB6] at hV5 ⊢
  refine wpAnyH_ready (rs := [6]) (by kernel_rfl) (by simp) ?_
  refine AllReadyH.cons rfl (fun K hK => ?_) AllReadyH.nil
  refine stS rfl 153 _ _ rfl B6 slZ (slC g which a room h) rfl rfl hV5 (by rw [slC_len g which a room HH.out.1.1, slZ_len]) (by rw [slC_len g which a room HH.out.1.1]; exact sz_sl16) (slC_one g which a room h) ?_
  intro q2 hV6 hK6 hS6
  have hB8 : Below q0.heap.size q0 q2 := hK6.next hB5 (fun i hi => by omega) hB5.size
  have HW2 : Hid (Hw16 w B B1 B6 g which a room h q2) := ⟨HV4.out.later hB8, hV6⟩
  refine hK.out _ _ ⟨⟨cell_later hB8 HS0.1.1, cell_later hB8 HS0.1.2.1, cell_later hB8 HS0.1.2.2.1, cell_later hB8 HS0.1.2.2.2⟩, range_later16 HS0.2 hB8⟩ (fun HS => ?_)
  clear hK K HS HS1 HS0 hB8 hV5 hB5 hS5 hB6 hB6k hV6 hK6 hS6 HV4 har
  try simp only [Act.put, List.getElem_toArray, List.getElem_cons_succ, List.getElem_cons_zero, List.setIfInBounds_toArray, List.set_cons_zero, List.set_cons_succ]
  refine wpAnyH_done (by kernel_rfl) ?_ _
  go_wp2_with (refine ldSl rfl _ rfl B6 (slC g which a room h) rfl HW2.out.v (slC_len g which a room HH.out.1.1) ?_)
  refine (right16 q2 g which a room h HH.out.1 HW2.out.b.t HU.out.2.1 (by have := HU.out.2.2; omega)).mono ?_
  rintro e q3 ⟨rfl, hB3⟩
  have HW3 : Hid (Hw16 w B B1 B6 g which a room h q3) := HW2.out.later hB3
  clear hB3 HW2
  by_cases hwl : whl h which room
  · have hw' := HSl.out
    rw [if_pos hwl] at hw'
    rw [decide_eq_true hwl]
    obtain ⟨N, hN⟩ : ∃ N, gt h 0 8 = N := ⟨_, rfl⟩
    obtain ⟨Z, hZ⟩ : ∃ Z, gt h 8 8 = Z := ⟨_, rfl⟩
    obtain ⟨U, hU⟩ : ∃ U, gt h 16 4 = U := ⟨_, rfl⟩
    rw [hN, hZ, hU] at hw'
    have hZr : Z ≤ room * 128 := by rw [← hZ]; exact hwl.2.2.2.2.1
    have hN62 : N ≤ 4611686018427387904 := by rw [← hN]; exact hwl.2.2.1
    obtain ⟨T, hTt⟩ : ∃ T, (sdat (rb s) a room).take Z = T := ⟨_, rfl⟩
    rw [hTt] at hw'
    have HT : Hid ((sdat (rb s) a room).take Z = T ∧ T.length = Z ∧ (∀ c ∈ T, c < 256)) := by
      refine ⟨hTt, by rw [← hTt]; exact sdat_take _ _ _ HU.out.2.2.2.2.2 Z hZr, fun c hc => ?_⟩
      rw [← hTt] at hc
      have hc2 := List.mem_of_mem_take hc
      unfold sdat at hc2
      rw [List.mem_flatMap] at hc2
      obtain ⟨i, hi, hc3⟩ := hc2
      rw [List.mem_range] at hi
      exact (okD_rb (V.dtO HD.out.1) HU.out.1 (a + 1 + i) (by have := HU.out.2.2.1; omega)).2.2 c hc3
    obtain ⟨S1, hS1⟩ : ∃ S1, sm T = S1 := ⟨_, rfl⟩
    rw [hS1] at hw'
    have HR : Hid (R = if S1 = U then (T, N) else ([], 0)) := hw'
    have hS32 : S1 < 4294967296 := by rw [← hS1]; exact sm_lt T
    have C1 := fun W => number16 h HH.out.1 0 8 (by omega) (by omega) W
    have C2 := fun W => number16 h HH.out.1 8 8 (by omega) (by omega) W
    have C3 := fun W => number16 h HH.out.1 16 4 (by omega) (by omega) W
    rw [hN] at C1
    rw [hZ] at C2
    rw [hU] at C3
    have HC1 : Hid (∀ W : World, Calls Tryz.prog 94 #[bkV h, .int .i64 ((0 : Nat) : Int), .int .i64 ((8 : Nat) : Int)] W fun e w' => e = .returned (.int .u64 (N : Int)) ∧ Below W.heap.size W w') := C1
    have HC2 : Hid (∀ W : World, Calls Tryz.prog 94 #[bkV h, .int .i64 ((8 : Nat) : Int), .int .i64 ((8 : Nat) : Int)] W fun e w' => e = .returned (.int .u64 (Z : Int)) ∧ Below W.heap.size W w') := C2
    have HC3 : Hid (∀ W : World, Calls Tryz.prog 94 #[bkV h, .int .i64 ((16 : Nat) : Int), .int .i64 ((4 : Nat) : Int)] W fun e w' => e = .returned (.int .u64 (U : Int)) ∧ Below W.heap.size W w') := C3
    have HSm : Hid (sm T = S1) := hS1
    have z0 : IntKind.i64.wrap (Z : Int) = (Z : Int) := by rw [IntKind.wrap_i64]; have := HU.out.2.2; omega
    have HZr : Hid (Z ≤ room * 128) := hZr
    clear hw' hwl HSl hN hZ hU hTt hS1 C1 C2 C3 hZr
    go_upto_region 7 with fail
    refine wp_region_held_drew (S := Hz16 B B6 g which a room h) (by kernel_rfl) HW3.out.z (fun HS => ?_)
    have HW4 : Hid (Hw16 w B B1 B6 g which a room h q3.drew) := HW3.out.later (Below.refl _ _).drew
    clear HW3
    generalize q3.drew = q4 at *
    refine wpAnyH_take (i := 0) (v := ?v4) rfl (by kernel_rfl) (by kernel_rfl) (by kernel_rfl) (fun _ _ _ h => h) (Or.inl ⟨by kernel_rfl, ?h4⟩) HS ?r4
    case h4 => (rintro w ⟨⟨m0, m1, m2, m3⟩, ⟨n0, n1, n2, n3⟩, n4⟩; go_simp) <;> with_reducible rfl
    try simp only [Act.put, List.getElem_toArray, List.getElem_cons_succ, List.getElem_cons_zero, List.setIfInBounds_toArray, List.set_cons_zero, List.set_cons_succ]
    refine wpAnyH_take (i := 1) (v := ?v5) rfl (by kernel_rfl) (by kernel_rfl) (by kernel_rfl) (fun _ _ _ h => h) (Or.inl ⟨by kernel_rfl, ?h5⟩) HS ?r5
    case h5 => (rintro w ⟨⟨m0, m1, m2, m3⟩, ⟨n0, n1, n2, n3⟩, n4⟩; go_simp) <;> with_reducible rfl
    try simp only [Act.put, List.getElem_toArray, List.getElem_cons_succ, List.getElem_cons_zero, List.setIfInBounds_toArray, List.set_cons_zero, List.set_cons_succ]
    refine wpAnyH_take (i := 2) (v := ?v6) rfl (by kernel_rfl) (by kernel_rfl) (by kernel_rfl) (fun _ _ _ h => h) (Or.inl ⟨by kernel_rfl, ?h6⟩) HS ?r6
    case h6 => (rintro w ⟨⟨m0, m1, m2, m3⟩, ⟨n0, n1, n2, n3⟩, n4⟩; go_simp) <;> with_reducible rfl
    try simp only [Act.put, List.getElem_toArray, List.getElem_cons_succ, List.getElem_cons_zero, List.setIfInBounds_toArray, List.set_cons_zero, List.set_cons_succ]
    refine wpAnyH_take (i := 3) (v := bkV h) rfl (by kernel_rfl) (by kernel_rfl) (by kernel_rfl) (fun _ _ _ h => h) (yields_hd16 (by kernel_rfl) _ rfl B B6 g which a room h HH.out.1.1 rfl) HS ?_
    try simp only [Act.put, List.getElem_toArray, List.getElem_cons_succ, List.getElem_cons_zero, List.setIfInBounds_toArray, List.set_cons_zero, List.set_cons_succ]
    refine wpAnyH_ready (rs := [4]) (by kernel_rfl) (by simp) ?_
    refine AllReadyH.cons rfl (fun K hK => ?_) AllReadyH.nil
    go_simp
    refine (HC2.out q4).mono ?_
    rintro e q5 ⟨rfl, hB5⟩
    have HW5 : Hid (Hw16 w B B1 B6 g which a room h q5) := HW4.out.later hB5
    refine hK.out _ _ HW5.out.z (fun HS => ?_)
    clear hK K hB5 HW4 HC2
    try simp only [Act.put, List.getElem_toArray, List.getElem_cons_succ, List.getElem_cons_zero, List.setIfInBounds_toArray, List.set_cons_zero, List.set_cons_succ]
    refine wpAnyH_take (i := 5) (v := ?v7) rfl (by kernel_rfl) (by kernel_rfl) (by kernel_rfl) (fun _ _ _ h => h) (Or.inl ⟨by kernel_rfl, ?h7⟩) HS ?r7
    case h7 => (rintro w ⟨⟨m0, m1, m2, m3⟩, ⟨n0, n1, n2, n3⟩, n4⟩; go_simp) <;> with_reducible rfl
    try simp only [Act.put, List.getElem_toArray, List.getElem_cons_succ, List.getElem_cons_zero, List.setIfInBounds_toArray, List.set_cons_zero, List.set_cons_succ]
    refine wpAnyH_ready (rs := [6]) (by kernel_rfl) (by simp) ?_
    refine AllReadyH.cons rfl (fun K hK => ?_) AllReadyH.nil
    go_simp
    refine (readp16 V q5 g F s which a room Z (V.dtK HD.out.1 (fun i hi => HW5.out.b.k.block i (V.dtB HD.out.1 i hi)) HW5.out.b.k.size) HU.out.1 HU.out.2.2.1 HU.out.2.2.2.1 HZr.out).mono ?_
    rintro e q6 ⟨vT, rfl, hLT, hOT, hB6'⟩
    rw [HT.out.1] at hLT
    obtain ⟨adT, capT, eT, -, -⟩ := hLT.len
    rw [HT.out.2.1] at eT
    subst eT
    have HW6 : Hid (Hw16 w B B1 B6 g which a room h q6 ∧ Bs q6 (.slice adT Z capT) T ∧ Ow w.heap.size (.slice adT Z capT) ∧ Nf (fun k => k = B1) (.slice adT Z capT)) := ⟨HW5.out.later hB6', hLT, fun a' n' c' e' hn' => by have h1 := hOT a' n' c' e' hn'; have h2 := HW5.out.b.k.size; omega, fun a' n' c' e' hn' hf => by have h1 := hOT a' n' c' e' hn'; have h2 := HW5.out.b.r.lt; omega⟩
    refine hK.out _ _ HW6.out.1.z (fun HS => ?_)
    clear hK K hLT hOT hB6' HW5
    try simp only [Act.put, List.getElem_toArray, List.getElem_cons_succ, List.getElem_cons_zero, List.setIfInBounds_toArray, List.set_cons_zero, List.set_cons_succ]
    refine wpAnyH_take (i := 7) (v := ?v8) rfl (by kernel_rfl) (by kernel_rfl) (by kernel_rfl) (fun _ _ _ h => h) (Or.inl ⟨by kernel_rfl, ?h8⟩) HS ?r8
    case h8 => (rintro w ⟨⟨m0, m1, m2, m3⟩, ⟨n0, n1, n2, n3⟩, n4⟩; go_simp) <;> with_reducible rfl
    try simp only [Act.put, List.getElem_toArray, List.getElem_cons_succ, List.getElem_cons_zero, List.setIfInBounds_toArray, List.set_cons_zero, List.set_cons_succ]
    refine wpAnyH_take (i := 8) (v := ?v9) rfl (by kernel_rfl) (by kernel_rfl) (by kernel_rfl) (fun _ _ _ h => h) (Or.inl ⟨by kernel_rfl, ?h9⟩) HS ?r9
    case h9 => (rintro w ⟨⟨m0, m1, m2, m3⟩, ⟨n0, n1, n2, n3⟩, n4⟩; go_simp) <;> with_reducible rfl
    try simp only [Act.put, List.getElem_toArray, List.getElem_cons_succ, List.getElem_cons_zero, List.setIfInBounds_toArray, List.set_cons_zero, List.set_cons_succ]
    refine wpAnyH_take (i := 9) (v := ?v10) rfl (by kernel_rfl) (by kernel_rfl) (by kernel_rfl) (fun _ _ _ h => h) (Or.inl ⟨by kernel_rfl, ?h10⟩) HS ?r10
    case h10 => (rintro w ⟨⟨m0, m1, m2, m3⟩, ⟨n0, n1, n2, n3⟩, n4⟩; go_simp) <;> with_reducible rfl
    try simp only [Act.put, List.getElem_toArray, List.getElem_cons_succ, List.getElem_cons_zero, List.setIfInBounds_toArray, List.set_cons_zero, List.set_cons_succ]
    refine wpAnyH_take (i := 10) (v := ?v11) rfl (by kernel_rfl) (by kernel_rfl) (by kernel_rfl) (fun _ _ _ h => h) (Or.inl ⟨by kernel_rfl, ?h11⟩) HS ?r11
    case h11 => (rintro w ⟨⟨m0, m1, m2, m3⟩, ⟨n0, n1, n2, n3⟩, n4⟩; go_simp) <;> with_reducible rfl
    try simp only [Act.put, List.getElem_toArray, List.getElem_cons_succ, List.getElem_cons_zero, List.setIfInBounds_toArray, List.set_cons_zero, List.set_cons_succ]
    refine wpAnyH_take (i := 11) (v := ?v12) rfl (by kernel_rfl) (by kernel_rfl) (by kernel_rfl) (fun _ _ _ h => h) (Or.inl ⟨by kernel_rfl, ?h12⟩) HS ?r12
    case h12 => (rintro w ⟨⟨m0, m1, m2, m3⟩, ⟨n0, n1, n2, n3⟩, n4⟩; go_simp) <;> with_reducible rfl
    try simp only [Act.put, List.getElem_toArray, List.getElem_cons_succ, List.getElem_cons_zero, List.setIfInBounds_toArray, List.set_cons_zero, List.set_cons_succ]
    refine wpAnyH_done (by kernel_rfl) ?_ _
    clear HS z0
    go_upto_region 8 with fail
    refine wp_region_held_drew (S := Hz16 B B6 g which a room h) (by kernel_rfl) HW6.out.1.z (fun HS => ?_)
    have HW7 : Hid (Hw16 w B B1 B6 g which a room h q6.drew ∧ Bs q6.drew (.slice adT Z capT) T ∧ Ow w.heap.size (.slice adT Z capT) ∧ Nf (fun k => k = B1) (.slice adT Z capT)) := ⟨HW6.out.1.later (Below.refl _ _).drew, HW6.out.2.1.later (Below.refl _ _).drew, HW6.out.2.2⟩
    clear HW6
    generalize q6.drew = q7 at *
    refine wpAnyH_take (i := 0) (v := ?v13) rfl (by kernel_rfl) (by kernel_rfl) (by kernel_rfl) (fun _ _ _ h => h) (Or.inl ⟨by kernel_rfl, ?h13⟩) HS ?r13
    case h13 => (rintro w ⟨⟨m0, m1, m2, m3⟩, ⟨n0, n1, n2, n3⟩, n4⟩; go_simp) <;> with_reducible rfl
    try simp only [Act.put, List.getElem_toArray, List.getElem_cons_succ, List.getElem_cons_zero, List.setIfInBounds_toArray, List.set_cons_zero, List.set_cons_succ]
    refine wpAnyH_take (i := 1) (v := ?v14) rfl (by kernel_rfl) (by kernel_rfl) (by kernel_rfl) (fun _ _ _ h => h) (Or.inl ⟨by kernel_rfl, ?h14⟩) HS ?r14
    case h14 => (rintro w ⟨⟨m0, m1, m2, m3⟩, ⟨n0, n1, n2, n3⟩, n4⟩; go_simp) <;> with_reducible rfl
    try simp only [Act.put, List.getElem_toArray, List.getElem_cons_succ, List.getElem_cons_zero, List.setIfInBounds_toArray, List.set_cons_zero, List.set_cons_succ]
    refine wpAnyH_take (i := 2) (v := ?v15) rfl (by kernel_rfl) (by kernel_rfl) (by kernel_rfl) (fun _ _ _ h => h) (Or.inl ⟨by kernel_rfl, ?h15⟩) HS ?r15
    case h15 => (rintro w ⟨⟨m0, m1, m2, m3⟩, ⟨n0, n1, n2, n3⟩, n4⟩; go_simp) <;> with_reducible rfl
    try simp only [Act.put, List.getElem_toArray, List.getElem_cons_succ, List.getElem_cons_zero, List.setIfInBounds_toArray, List.set_cons_zero, List.set_cons_succ]
    refine wpAnyH_take (i := 3) (v := ?v16) rfl (by kernel_rfl) (by kernel_rfl) (by kernel_rfl) (fun _ _ _ h => h) (Or.inl ⟨by kernel_rfl, ?h16⟩) HS ?r16
    case h16 => (rintro w ⟨⟨m0, m1, m2, m3⟩, ⟨n0, n1, n2, n3⟩, n4⟩; go_simp) <;> with_reducible rfl
    try simp only [Act.put, List.getElem_toArray, List.getElem_cons_succ, List.getElem_cons_zero, List.setIfInBounds_toArray, List.set_cons_zero, List.set_cons_succ]
    refine wpAnyH_take (i := 7) (v := ?v17) rfl (by kernel_rfl) (by kernel_rfl) (by kernel_rfl) (fun _ _ _ h => h) (Or.inl ⟨by kernel_rfl, ?h17⟩) HS ?r17
    case h17 => (rintro w ⟨⟨m0, m1, m2, m3⟩, ⟨n0, n1, n2, n3⟩, n4⟩; go_simp) <;> with_reducible rfl
    try simp only [Act.put, List.getElem_toArray, List.getElem_cons_succ, List.getElem_cons_zero, List.setIfInBounds_toArray, List.set_cons_zero, List.set_cons_succ]
    refine wpAnyH_take (i := 8) (v := bkV h) rfl (by kernel_rfl) (by kernel_rfl) (by kernel_rfl) (fun _ _ _ h => h) (yields_hd16 (by kernel_rfl) _ rfl B B6 g which a room h HH.out.1.1 rfl) HS ?_
    try simp only [Act.put, List.getElem_toArray, List.getElem_cons_succ, List.getElem_cons_zero, List.setIfInBounds_toArray, List.set_cons_zero, List.set_cons_succ]
    refine wpAnyH_ready (rs := [4]) (by kernel_rfl) (by simp) ?_
    refine AllReadyH.cons rfl (fun K hK => ?_) AllReadyH.nil
    go_simp
    have HW8 : Hid (Hw16 w B B1 B6 g which a room h (q7.alloc (.cells #[.slice adT Z capT] 30))) := HW7.out.1.later (bel1 _ _)
    have hof := ofOne16 q7 adT Z capT T 30 HW7.out.2.1 HT.out.2.1 HT.out.2.2 (by rw [HT.out.2.1]; have := HU.out.2.2; have := HZr.out; omega) HW7.out.1.b.t
    rw [HSm.out] at hof
    refine hK.out _ _ HW8.out.z (fun HS => ?_)
    clear hK K
    try simp only [Act.put, List.getElem_toArray, List.getElem_cons_succ, List.getElem_cons_zero, List.setIfInBounds_toArray, List.set_cons_zero, List.set_cons_succ]
    refine wpAnyH_ready (rs := [5]) (by kernel_rfl) (by simp) ?_
    refine AllReadyH.cons rfl (fun K hK => ?_) AllReadyH.nil
    go_simp
    refine hof.mono ?_
    rintro e q8 ⟨rfl, hB8⟩
    have HW9 : Hid (Hw16 w B B1 B6 g which a room h q8 ∧ Bs q8 (.slice adT Z capT) T ∧ Ow w.heap.size (.slice adT Z capT) ∧ Nf (fun k => k = B1) (.slice adT Z capT)) := ⟨HW7.out.1.later hB8, HW7.out.2.1.later hB8, HW7.out.2.2⟩
    refine hK.out _ _ HW9.out.1.z (fun HS => ?_)
    clear hK K hB8 HW8 HW7 hof
    try simp only [Act.put, List.getElem_toArray, List.getElem_cons_succ, List.getElem_cons_zero, List.setIfInBounds_toArray, List.set_cons_zero, List.set_cons_succ]
    have z1 : IntKind.u64.wrap (S1 : Int) = (S1 : Int) := by rw [IntKind.wrap_u64]; omega
    refine wpAnyH_take (i := 6) (v := ?v18) rfl (by kernel_rfl) (by kernel_rfl) (by kernel_rfl) (fun _ _ _ h => h) (Or.inl ⟨by kernel_rfl, ?h18⟩) HS ?r18
    case h18 => (rintro w ⟨⟨m0, m1, m2, m3⟩, ⟨n0, n1, n2, n3⟩, n4⟩; go_simp) <;> with_reducible rfl
    try simp only [Act.put, List.getElem_toArray, List.getElem_cons_succ, List.getElem_cons_zero, List.setIfInBounds_toArray, List.set_cons_zero, List.set_cons_succ]
    refine wpAnyH_ready (rs := [9]) (by kernel_rfl) (by simp) ?_
    refine AllReadyH.cons rfl (fun K hK => ?_) AllReadyH.nil
    go_simp
    refine (HC3.out q8).mono ?_
    rintro e q9 ⟨rfl, hB9⟩
    have HWa : Hid (Hw16 w B B1 B6 g which a room h q9 ∧ Bs q9 (.slice adT Z capT) T ∧ Ow w.heap.size (.slice adT Z capT) ∧ Nf (fun k => k = B1) (.slice adT Z capT)) := ⟨HW9.out.1.later hB9, HW9.out.2.1.later hB9, HW9.out.2.2⟩
    refine hK.out _ _ HWa.out.1.z (fun HS => ?_)
    clear hK K hB9 HW9 HC3 z1
    try simp only [Act.put, List.getElem_toArray, List.getElem_cons_succ, List.getElem_cons_zero, List.setIfInBounds_toArray, List.set_cons_zero, List.set_cons_succ]
    by_cases c6 : S1 = U
    · subst c6
      have HR2 : Hid (R = (T, N)) := by have := HR.out; rw [if_pos rfl] at this; exact this
      clear HR
      refine wpAnyH_take (i := 10) (v := ?v19) rfl (by kernel_rfl) (by kernel_rfl) (by kernel_rfl) (fun _ _ _ h => h) (Or.inl ⟨by kernel_rfl, ?h19⟩) HS ?r19
      case h19 => (rintro w ⟨⟨m0, m1, m2, m3⟩, ⟨n0, n1, n2, n3⟩, n4⟩; go_simp) <;> with_reducible rfl
      try simp only [Act.put, List.getElem_toArray, List.getElem_cons_succ, List.getElem_cons_zero, List.setIfInBounds_toArray, List.set_cons_zero, List.set_cons_succ]
      refine wpAnyH_take (i := 11) (v := ?v20) rfl (by kernel_rfl) (by kernel_rfl) (by kernel_rfl) (fun _ _ _ h => h) (Or.inl ⟨by kernel_rfl, ?h20⟩) HS ?r20
      case h20 => (rintro w ⟨⟨m0, m1, m2, m3⟩, ⟨n0, n1, n2, n3⟩, n4⟩; go_simp) <;> with_reducible rfl
      try simp only [Act.put, List.getElem_toArray, List.getElem_cons_succ, List.getElem_cons_zero, List.setIfInBounds_toArray, List.set_cons_zero, List.set_cons_succ]
      refine wpAnyH_done (by kernel_rfl) ?_ _
      clear HS
      have z2 : IntKind.i64.wrap (N : Int) = (N : Int) := by rw [IntKind.wrap_i64]; omega
      go_upto_region 10 with fail
      refine wp_region_held_drew (S := Hz16 B B6 g which a room h) (by kernel_rfl) HWa.out.1.z (fun HS => ?_)
      have HWb : Hid (Hw16 w B B1 B6 g which a room h q9.drew ∧ Bs q9.drew (.slice adT Z capT) T ∧ Ow w.heap.size (.slice adT Z capT) ∧ Nf (fun k => k = B1) (.slice adT Z capT)) := ⟨HWa.out.1.later (Below.refl _ _).drew, HWa.out.2.1.later (Below.refl _ _).drew, HWa.out.2.2⟩
      clear HWa
      generalize q9.drew = qa at *
      refine wpAnyH_take (i := 0) (v := ?v21) rfl (by kernel_rfl) (by kernel_rfl) (by kernel_rfl) (fun _ _ _ h => h) (Or.inl ⟨by kernel_rfl, ?h21⟩) HS ?r21
      case h21 => (rintro w ⟨⟨m0, m1, m2, m3⟩, ⟨n0, n1, n2, n3⟩, n4⟩; go_simp) <;> with_reducible rfl
      try simp only [Act.put, List.getElem_toArray, List.getElem_cons_succ, List.getElem_cons_zero, List.setIfInBounds_toArray, List.set_cons_zero, List.set_cons_succ]
      refine wpAnyH_take (i := 1) (v := ?v22) rfl (by kernel_rfl) (by kernel_rfl) (by kernel_rfl) (fun _ _ _ h => h) (Or.inl ⟨by kernel_rfl, ?h22⟩) HS ?r22
      case h22 => (rintro w ⟨⟨m0, m1, m2, m3⟩, ⟨n0, n1, n2, n3⟩, n4⟩; go_simp) <;> with_reducible rfl
      try simp only [Act.put, List.getElem_toArray, List.getElem_cons_succ, List.getElem_cons_zero, List.setIfInBounds_toArray, List.set_cons_zero, List.set_cons_succ]
      refine wpAnyH_take (i := 2) (v := bkV h) rfl (by kernel_rfl) (by kernel_rfl) (by kernel_rfl) (fun _ _ _ h => h) (yields_hd16 (by kernel_rfl) _ rfl B B6 g which a room h HH.out.1.1 rfl) HS ?_
      try simp only [Act.put, List.getElem_toArray, List.getElem_cons_succ, List.getElem_cons_zero, List.setIfInBounds_toArray, List.set_cons_zero, List.set_cons_succ]
      refine wpAnyH_take (i := 5) (v := ?v23) rfl (by kernel_rfl) (by kernel_rfl) (by kernel_rfl) (fun _ _ _ h => h) (Or.inl ⟨by kernel_rfl, ?h23⟩) HS ?r23
      case h23 => (rintro w ⟨⟨m0, m1, m2, m3⟩, ⟨n0, n1, n2, n3⟩, n4⟩; go_simp) <;> with_reducible rfl
      try simp only [Act.put, List.getElem_toArray, List.getElem_cons_succ, List.getElem_cons_zero, List.setIfInBounds_toArray, List.set_cons_zero, List.set_cons_succ]
      refine wpAnyH_ready (rs := [3]) (by kernel_rfl) (by simp) ?_
      refine AllReadyH.cons rfl (fun K hK => ?_) AllReadyH.nil
      go_simp
      refine (HC1.out qa).mono ?_
      rintro e qb ⟨rfl, hBb⟩
      have HWc : Hid (Hw16 w B B1 B6 g which a room h qb ∧ Bs qb (.slice adT Z capT) T ∧ Ow w.heap.size (.slice adT Z capT) ∧ Nf (fun k => k = B1) (.slice adT Z capT)) := ⟨HWb.out.1.later hBb, HWb.out.2.1.later hBb, HWb.out.2.2⟩
      refine hK.out _ _ HWc.out.1.z (fun HS => ?_)
      clear hK K hBb HWb HC1
      try simp only [Act.put, List.getElem_toArray, List.getElem_cons_succ, List.getElem_cons_zero, List.setIfInBounds_toArray, List.set_cons_zero, List.set_cons_succ]
      refine wpAnyH_take (i := 4) (v := ?v24) rfl (by kernel_rfl) (by kernel_rfl) (by kernel_rfl) (fun _ _ _ h => h) (Or.inl ⟨by kernel_rfl, ?h24⟩) HS ?r24
      case h24 => (rintro w ⟨⟨m0, m1, m2, m3⟩, ⟨n0, n1, n2, n3⟩, n4⟩; go_simp) <;> with_reducible rfl
      try simp only [Act.put, List.getElem_toArray, List.getElem_cons_succ, List.getElem_cons_zero, List.setIfInBounds_toArray, List.set_cons_zero, List.set_cons_succ]
      refine wpAnyH_take (i := 6) (v := ?v25) rfl (by kernel_rfl) (by kernel_rfl) (by kernel_rfl) (fun _ _ _ h => h) (Or.inl ⟨by kernel_rfl, ?h25⟩) HS ?r25
      case h25 => (rintro w ⟨⟨m0, m1, m2, m3⟩, ⟨n0, n1, n2, n3⟩, n4⟩; go_simp) <;> with_reducible rfl
      try simp only [Act.put, List.getElem_toArray, List.getElem_cons_succ, List.getElem_cons_zero, List.setIfInBounds_toArray, List.set_cons_zero, List.set_cons_succ]
      refine wpAnyH_ready (rs := [7]) (by kernel_rfl) (by simp) ?_
      refine AllReadyH.cons rfl (fun K hK => ?_) AllReadyH.nil
      refine stS rfl 128 _ _ rfl B1 tz16 (txC (some ⟨g, 0, none⟩) which a room N (.slice adT Z capT)) rfl rfl HWc.out.1.b.r rfl sz_tx16 (txC_one _ _ _ _ _ _ _ _) ?_
      intro qc hV4 hK4 hS4
      have HF : Hid (Vb qc B1 128 (txC (some ⟨g, 0, none⟩) which a room N (.slice adT Z capT)) ∧ Below w.heap.size w qc ∧ Bs qc (.slice adT Z capT) T ∧ Ow w.heap.size (.slice adT Z capT)) :=
        ⟨hV4, hK4.next HWc.out.1.b.k (fun i hi => by have := HB1.out; have := HB.out; omega) HWc.out.1.b.k.size, hK4.bs HWc.out.2.1 HWc.out.2.2.2, HWc.out.2.2.1⟩
      refine hK.out _ _ (HWc.out.1.z.kp hK4 HB6.out) (fun HS => ?_)
      clear hK K hV4 hK4 hS4 HWc
      try simp only [Act.put, List.getElem_toArray, List.getElem_cons_succ, List.getElem_cons_zero, List.setIfInBounds_toArray, List.set_cons_zero, List.set_cons_succ]
      refine wpAnyH_take (i := 8) (v := ?v26) rfl (by kernel_rfl) (by kernel_rfl) (by kernel_rfl) (fun _ _ _ h => h) (Or.inl ⟨by kernel_rfl, ?h26⟩) HS ?r26
      case h26 => (rintro w ⟨⟨m0, m1, m2, m3⟩, ⟨n0, n1, n2, n3⟩, n4⟩; go_simp) <;> with_reducible rfl
      try simp only [Act.put, List.getElem_toArray, List.getElem_cons_succ, List.getElem_cons_zero, List.setIfInBounds_toArray, List.set_cons_zero, List.set_cons_succ]
      refine wpAnyH_done (by kernel_rfl) ?_ _
      clear HS
      go_wp2_with fail
      have c0 := HF.out.1.cell 0 _ rfl
      have c1 := HF.out.1.cell 1 _ rfl
      have c2 := HF.out.1.cell 2 _ rfl
      have c3 := HF.out.1.cell 3 _ rfl
      have c4 := HF.out.1.cell 4 _ rfl
      have c5 := HF.out.1.cell 5 _ rfl
      rw [HR2.out]
      exact bodyPost_ret (v := .tuple #[.agg #[.pointer (some ⟨g, 0, none⟩), .int .i64 which, .int .i64 a, .int .i64 room, .int .i64 N, .slice adT Z capT], .int .i64 0]) (by simp [results, Tryz.results83, go_sem, c0, c1, c2, c3, c4, c5]) rfl ⟨some ⟨g, 0, none⟩, which, a, room, .slice adT Z capT, rfl, HF.out.2.2.1, HF.out.2.2.2, HF.out.2.1⟩
    · have c6I : ¬ (S1 : Int) = (U : Int) := by omega
      have c6B : ((S1 : Int) == (U : Int)) = false := by rw [beq_eq_false_iff_ne]; exact c6I
      have c6C : ((S1 : Int) != (U : Int)) = true := by rw [bne_iff_ne]; exact c6I
      have HR2 : Hid (R = ([], 0)) := by have := HR.out; rw [if_neg c6] at this; exact this
      refine wpAnyH_take (i := 10) (v := ?v27) rfl (by kernel_rfl) (by kernel_rfl) (by kernel_rfl) (fun _ _ _ h => h) (Or.inl ⟨by kernel_rfl, ?h27⟩) HS ?r27
      case h27 => (rintro w ⟨⟨m0, m1, m2, m3⟩, ⟨n0, n1, n2, n3⟩, n4⟩; go_simp) <;> with_reducible rfl
      try simp only [Act.put, List.getElem_toArray, List.getElem_cons_succ, List.getElem_cons_zero, List.setIfInBounds_toArray, List.set_cons_zero, List.set_cons_succ]
      refine wpAnyH_take (i := 11) (v := ?v28) rfl (by kernel_rfl) (by kernel_rfl) (by kernel_rfl) (fun _ _ _ h => h) (Or.inl ⟨by kernel_rfl, ?h28⟩) HS ?r28
      case h28 => (rintro w ⟨⟨m0, m1, m2, m3⟩, ⟨n0, n1, n2, n3⟩, n4⟩; go_simp) <;> with_reducible rfl
      try simp only [Act.put, List.getElem_toArray, List.getElem_cons_succ, List.getElem_cons_zero, List.setIfInBounds_toArray, List.set_cons_zero, List.set_cons_succ]
      refine wpAnyH_done (by kernel_rfl) ?_ _
      clear HS
      go_wp2_with (first
        | (refine bdT0 rfl rfl ?_)
        | (refine stV rfl 128 _ _ rfl B1 tz16 tz16 rfl rfl HWa.out.1.b.r rfl sz_tx16 (txC_one _ _ _ _ _ _ _ _) ?_; intro w4 hV4 hK4 hS4))
      have c0 := hV4.cell 0 _ rfl
      have c1 := hV4.cell 1 _ rfl
      have c2 := hV4.cell 2 _ rfl
      have c3 := hV4.cell 3 _ rfl
      have c4 := hV4.cell 4 _ rfl
      have c5 := hV4.cell 5 _ rfl
      rw [HR2.out]
      exact bodyPost_ret (v := .tuple #[.agg #[.pointer none, .int .i64 0, .int .i64 0, .int .i64 0, .int .i64 0, .slice none 0 0], .int .i64 0]) (by simp [results, Tryz.results83, go_sem, c0, c1, c2, c3, c4, c5]) rfl ⟨none, 0, 0, 0, .slice none 0 0, rfl, bs_nilS _, ow_nilS _, hK4.next HWa.out.1.b.k (fun i hi => by have := HB1.out; have := HB.out; omega) HWa.out.1.b.k.size⟩
  · have HR2 : Hid (R = ([], 0)) := by have := HSl.out; rw [if_neg hwl] at this; exact this
    rw [decide_eq_false hwl]
    clear hwl HSl
    go_wp2_with (first
      | (refine bdT0 rfl rfl ?_)
      | (refine stV rfl 128 _ _ rfl B1 tz16 tz16 rfl rfl HW3.out.b.r rfl sz_tx16 (txC_one _ _ _ _ _ _ _ _) ?_; intro w4 hV4 hK4 hS4))
    have c0 := hV4.cell 0 _ rfl
    have c1 := hV4.cell 1 _ rfl
    have c2 := hV4.cell 2 _ rfl
    have c3 := hV4.cell 3 _ rfl
    have c4 := hV4.cell 4 _ rfl
    have c5 := hV4.cell 5 _ rfl
    rw [HR2.out]
    exact bodyPost_ret (v := .tuple #[.agg #[.pointer none, .int .i64 0, .int .i64 0, .int .i64 0, .int .i64 0, .slice none 0 0], .int .i64 0]) (by simp [results, Tryz.results83, go_sem, c0, c1, c2, c3, c4, c5]) rfl ⟨none, 0, 0, 0, .slice none 0 0, rfl, bs_nilS _, ow_nilS _, hK4.next HW3.out.b.k (fun i hi => by have := HB1.out; have := HB.out; omega) HW3.out.b.k.size⟩
end Go.Proofs.YthnpdcblfocemaaGreatDoor
