/-
  Texts of this proof, joined: SqG SqH.
-/
import Derived.Test.YthnpdcblfocemaaGreatDoorSP08
import Derived.Test.YthnpdcblfocemaaGreatDoorSP23
set_option linter.unusedVariables false
set_option linter.unusedSimpArgs false
namespace Go.Proofs.YthnpdcblfocemaaGreatDoor
open Go.RowKit

def kpE (a n : Nat) (d : List Nat) (s : Dsk) : Nat := if twE a d s ≠ 0 then twE a d s else swE a (hdB n d) (twS a d s)
def kpS (a n : Nat) (d : List Nat) (s : Dsk) : Dsk := if twE a d s ≠ 0 then twS a d s else swS a (hdB n d) (twS a d s)
theorem svW_un (a : Nat) (d : List Nat) : ∀ (k i : Nat) (s : Dsk), (svW a d k i s).2.un.length ≤ s.un.length + k := by
  intro k
  induction k with
  | zero => intro i s; exact Nat.le_refl _
  | succ k ih =>
    intro i s
    have h := (wrS_unS s ((a + 1 + i : Nat) : Int) (ck d i)).1
    unfold svW
    split
    · show (wrS s ((a + 1 + i : Nat) : Int) (ck d i)).un.length ≤ _
      omega
    · have := ih (i + 1) (wrS s ((a + 1 + i : Nat) : Int) (ck d i))
      omega
theorem twS_un (a : Nat) (d : List Nat) (s : Dsk) : (twS a d s).un.length ≤ s.un.length + (d.length + 127) / 128 := by
  have h := svW_un a d ((d.length + 127) / 128) 0 s
  have h2 := flS_unS (svW a d ((d.length + 127) / 128) 0 s).2
  unfold twS
  split <;> omega
theorem TbAt.kept16 {F : Nat → Prop} {w w' : World} (h : TbAt w) (k : Kp F w w') (hF : ¬ F 1) : TbAt w' := fun m hm => k.cell hF (h m hm)
set_option maxRecDepth 100000 in
set_option maxHeartbeats 8000000 in
theorem keep16 (V : Disk1) (w : World) (g : Nat) (F : Nat → Prop) (s : Dsk) (which a room n : Nat) (v : Value) (d : List Nat) (hD : V.Dt w (.pointer (some ⟨g, 0, none⟩)) F s) (hv : Bs w v d) (hnf : Nf F v) (hb : ∀ c ∈ d, c < 256) (hl : d.length ≤ 64000) (hn : n ≤ 4611686018427387904) (hu : s.un.length ≤ 400) (ha : a ≤ 100000) (hT : TbAt w) (hFT : ∀ k, F k → k ≠ 1) :
    Calls Tryz.prog 65 #[.agg #[.pointer (some ⟨g, 0, none⟩), .int .i64 (which : Int), .int .i64 (a : Int), .int .i64 (room : Int), .int .i64 (n : Int), v]] w fun e w' => e = .returned (.int .i64 ((kpE a n d s : Nat) : Int)) ∧ Ad V.Dt (.pointer (some ⟨g, 0, none⟩)) F (kpS a n d s) w w' := by
  obtain ⟨ad, cap, rfl, -, -⟩ := hv.len
  obtain ⟨m, hm⟩ : ∃ m, d.length = m := ⟨_, rfl⟩
  have HM : Hid (d.length = m ∧ m ≤ 64000) := ⟨hm, by omega⟩
  have hun := twS_un a d s
  obtain ⟨hd, hhd⟩ : ∃ hd, hdB n d = hd := ⟨_, rfl⟩
  have HH : Hid (hdB n d = hd ∧ okb hd) := ⟨hhd, by rw [← hhd]; exact hdB_ok n d⟩
  rw [hm] at hv hnf hun ⊢
  obtain ⟨w1, hw1⟩ : ∃ w1, w1 = w.alloc (.cells #[.pointer (some ⟨g, 0, none⟩), .int .i64 (which : Int), .int .i64 (a : Int), .int .i64 (room : Int), .int .i64 (n : Int), .slice ad m cap] 128) := ⟨_, rfl⟩
  have hb1 : Below w.heap.size w w1 := by rw [hw1]; exact bel1 _ _
  have x0 : w1.cell? ⟨w.heap.size, 0, none⟩ = some (.pointer (some ⟨g, 0, none⟩)) := by rw [hw1]; simp [go_sem]
  have x1 : w1.cell? ⟨w.heap.size, 1, none⟩ = some (.int .i64 (which : Int)) := by rw [hw1]; simp [go_sem]
  have x2 : w1.cell? ⟨w.heap.size, 2, none⟩ = some (.int .i64 (a : Int)) := by rw [hw1]; simp [go_sem]
  have x3 : w1.cell? ⟨w.heap.size, 3, none⟩ = some (.int .i64 (room : Int)) := by rw [hw1]; simp [go_sem]
  have x4 : w1.cell? ⟨w.heap.size, 4, none⟩ = some (.int .i64 (n : Int)) := by rw [hw1]; simp [go_sem]
  have x5 : w1.cell? ⟨w.heap.size, 5, none⟩ = some (.slice ad m cap) := by rw [hw1]; simp [go_sem]
  have HX : Hid (w1.cell? ⟨w.heap.size, 0, none⟩ = some (.pointer (some ⟨g, 0, none⟩)) ∧ w1.cell? ⟨w.heap.size, 1, none⟩ = some (.int .i64 (which : Int)) ∧ w1.cell? ⟨w.heap.size, 2, none⟩ = some (.int .i64 (a : Int)) ∧ w1.cell? ⟨w.heap.size, 3, none⟩ = some (.int .i64 (room : Int)) ∧ w1.cell? ⟨w.heap.size, 4, none⟩ = some (.int .i64 (n : Int)) ∧ w1.cell? ⟨w.heap.size, 5, none⟩ = some (.slice ad m cap)) := ⟨x0, x1, x2, x3, x4, x5⟩
  have hnF : ¬ F w.heap.size := fun hf => by have := V.dtB hD _ hf; omega
  have HB : Hid (Below w.heap.size w w1 ∧ ¬ F w.heap.size ∧ TbAt w1 ∧ ¬ F 1 ∧ Bs w1 (.slice ad m cap) d ∧ Nf F (.slice ad m cap) ∧ (∀ c ∈ d, c < 256) ∧ w.heap.size < w1.heap.size) := ⟨hb1, hnF, hT.later hb1, fun h => hFT _ h rfl, hv.later hb1, hnf, hb, by rw [hw1]; simp⟩
  have HU : Hid ((twS a d s).un.length ≤ 900) := by show _ ≤ _; have := HM.out.2; omega
  have C := twrite16 V w1 (.pointer (some ⟨g, 0, none⟩)) F s which a room n (.slice ad m cap) d (V.dtK hD (fun i hi => hb1.block i (V.dtB hD i hi)) hb1.size) (hv.later hb1) hnf hb hl hu ha
  obtain ⟨E, hE⟩ : ∃ E, twE a d s = E := ⟨_, rfl⟩
  have HE : Hid (kpE a n d s = (if E ≠ 0 then E else swE a hd (twS a d s)) ∧ kpS a n d s = (if E ≠ 0 then twS a d s else swS a hd (twS a d s))) := by rw [← hE, ← hhd]; exact ⟨rfl, rfl⟩
  rw [hE] at C
  clear hE hv hnf hb hl hu ha hT hFT hD hb1 hnF hm hun hhd
  go_enter Tryz.func65, Tryz.ntmps65
  go_upto_region 1 with fail
  rw [← hw1]
  clear hw1
  go_upto_region 2 with (go_at_call 84; refine C.mono ?_; rintro e X ⟨rfl, F1, q1, q2, q3⟩; clear C)
  clear x0 x1 x2 x3 x4 x5
  have HX1 : Hid (V.Dt X (.pointer (some ⟨g, 0, none⟩)) F1 (twS a d s) ∧ Gr F F1 w ∧ Kp F w X ∧ ¬ F1 w.heap.size ∧ ¬ F1 1 ∧ TbAt X ∧ Bs X (.slice ad m cap) d) := by
    have hs := HB.out.1.size
    have hs2 := HB.out.2.2.2.2.2.2.2
    have htb : 1 < w1.heap.size := old_lt HB.out.2.2.1
    refine ⟨q1, fun k hk => ?_, (Kp.of (F := F) HB.out.1).trans q3 (fun _ h => Or.inl h), fun hf => ?_, fun hf => ?_, HB.out.2.2.1.kept16 q3 HB.out.2.2.2.1, q3.bs HB.out.2.2.2.2.1 HB.out.2.2.2.2.2.1⟩
    · rcases q2 k hk with q | q
      · exact Or.inl q
      · exact Or.inr (by omega)
    · rcases q2 _ hf with q | q
      · exact HB.out.2.1 q
      · omega
    · rcases q2 _ hf with q | q
      · exact HB.out.2.2.2.1 q
      · omega
  have x0 := q3.cell HB.out.2.1 HX.out.1
  have x1 := q3.cell HB.out.2.1 HX.out.2.1
  have x2 := q3.cell HB.out.2.1 HX.out.2.2.1
  have x3 := q3.cell HB.out.2.1 HX.out.2.2.2.1
  have x4 := q3.cell HB.out.2.1 HX.out.2.2.2.2.1
  have x5 := q3.cell HB.out.2.1 HX.out.2.2.2.2.2
  clear q1 q2 q3 HX
  by_cases hE0 : E = 0
  · subst hE0
    have HE2 : Hid (kpE a n d s = swE a hd (twS a d s) ∧ kpS a n d s = swS a hd (twS a d s)) := by have := HE.out; rw [if_neg (by omega), if_neg (by omega)] at this; exact this
    clear HE
    go_upto_region 4 with fail
    refine wp_region_held_drew (S := fun W => W.cell? ⟨w.heap.size, 0, none⟩ = some (.pointer (some ⟨g, 0, none⟩)) ∧ W.cell? ⟨w.heap.size, 1, none⟩ = some (.int .i64 (which : Int)) ∧ W.cell? ⟨w.heap.size, 2, none⟩ = some (.int .i64 (a : Int)) ∧ W.cell? ⟨w.heap.size, 3, none⟩ = some (.int .i64 (room : Int)) ∧ W.cell? ⟨w.heap.size, 4, none⟩ = some (.int .i64 (n : Int)) ∧ W.cell? ⟨w.heap.size, 5, none⟩ = some (.slice ad m cap)) (by kernel_rfl) ⟨x0, x1, x2, x3, x4, x5⟩ (fun HS => ?_)
    clear x0 x1 x2 x3 x4 x5
    have hbd : Below X.heap.size X X.drew := (Below.refl _ _).drew
    have HX2 : Hid (V.Dt X.drew (.pointer (some ⟨g, 0, none⟩)) F1 (twS a d s) ∧ Gr F F1 w ∧ Kp F w X.drew ∧ ¬ F1 w.heap.size ∧ TbAt X.drew ∧ Bs X.drew (.slice ad m cap) d) :=
      ⟨V.dtK HX1.out.1 (fun i hi => hbd.block i (V.dtB HX1.out.1 i hi)) hbd.size, HX1.out.2.1, HX1.out.2.2.1.drew, HX1.out.2.2.2.1, HX1.out.2.2.2.2.2.1.later hbd, HX1.out.2.2.2.2.2.2.later hbd⟩
    clear hbd HX1
    have HS0 := HS
    generalize X.drew = q0 at *
    refine wpAnyH_take (i := 0) (v := ?v1) rfl (by kernel_rfl) (by kernel_rfl) (by kernel_rfl) (fun _ _ _ h => h) (Or.inl ⟨by kernel_rfl, ?h1⟩) HS ?r1
    case h1 => (rintro w ⟨c0, c1, c2, c3, c4, c5⟩; go_simp) <;> with_reducible rfl
    try simp only [Act.put, List.getElem_toArray, List.getElem_cons_succ, List.getElem_cons_zero, List.setIfInBounds_toArray, List.set_cons_zero, List.set_cons_succ]
    refine wpAnyH_take (i := 1) (v := ?v2) rfl (by kernel_rfl) (by kernel_rfl) (by kernel_rfl) (fun _ _ _ h => h) (Or.inl ⟨by kernel_rfl, ?h2⟩) HS ?r2
    case h2 => (rintro w ⟨c0, c1, c2, c3, c4, c5⟩; go_simp) <;> with_reducible rfl
    try simp only [Act.put, List.getElem_toArray, List.getElem_cons_succ, List.getElem_cons_zero, List.setIfInBounds_toArray, List.set_cons_zero, List.set_cons_succ]
    refine wpAnyH_take (i := 2) (v := ?v3) rfl (by kernel_rfl) (by kernel_rfl) (by kernel_rfl) (fun _ _ _ h => h) (Or.inl ⟨by kernel_rfl, ?h3⟩) HS ?r3
    case h3 => (rintro w ⟨c0, c1, c2, c3, c4, c5⟩; go_simp) <;> with_reducible rfl
    try simp only [Act.put, List.getElem_toArray, List.getElem_cons_succ, List.getElem_cons_zero, List.setIfInBounds_toArray, List.set_cons_zero, List.set_cons_succ]
    refine wpAnyH_take (i := 3) (v := ?v4) rfl (by kernel_rfl) (by kernel_rfl) (by kernel_rfl) (fun _ _ _ h => h) (Or.inl ⟨by kernel_rfl, ?h4⟩) HS ?r4
    case h4 => (rintro w ⟨c0, c1, c2, c3, c4, c5⟩; go_simp) <;> with_reducible rfl
    try simp only [Act.put, List.getElem_toArray, List.getElem_cons_succ, List.getElem_cons_zero, List.setIfInBounds_toArray, List.set_cons_zero, List.set_cons_succ]
    refine wpAnyH_take (i := 4) (v := ?v5) rfl (by kernel_rfl) (by kernel_rfl) (by kernel_rfl) (fun _ _ _ h => h) (Or.inl ⟨by kernel_rfl, ?h5⟩) HS ?r5
    case h5 => (rintro w ⟨c0, c1, c2, c3, c4, c5⟩; go_simp) <;> with_reducible rfl
    try simp only [Act.put, List.getElem_toArray, List.getElem_cons_succ, List.getElem_cons_zero, List.setIfInBounds_toArray, List.set_cons_zero, List.set_cons_succ]
    refine wpAnyH_take (i := 5) (v := ?v6) rfl (by kernel_rfl) (by kernel_rfl) (by kernel_rfl) (fun _ _ _ h => h) (Or.inl ⟨by kernel_rfl, ?h6⟩) HS ?r6
    case h6 => (rintro w ⟨c0, c1, c2, c3, c4, c5⟩; go_simp) <;> with_reducible rfl
    try simp only [Act.put, List.getElem_toArray, List.getElem_cons_succ, List.getElem_cons_zero, List.setIfInBounds_toArray, List.set_cons_zero, List.set_cons_succ]
    refine wpAnyH_ready (rs := [6]) (by kernel_rfl) (by simp) ?_
    refine AllReadyH.cons rfl (fun K hK => ?_) AllReadyH.nil
    go_simp
    have C1 := headOf16 n hn (.slice ad m cap) d HB.out.2.2.2.2.2.2.1 (by rw [HM.out.1]; have := HM.out.2; omega) q0 HX2.out.2.2.2.2.1 HX2.out.2.2.2.2.2
    rw [HH.out.1] at C1
    refine C1.mono ?_
    rintro e q1 ⟨rfl, hB1⟩
    have HX3 : Hid (V.Dt q1 (.pointer (some ⟨g, 0, none⟩)) F1 (twS a d s) ∧ Gr F F1 w ∧ Kp F w q1 ∧ ¬ F1 w.heap.size) :=
      ⟨V.dtK HX2.out.1 (fun i hi => hB1.block i (V.dtB HX2.out.1 i hi)) hB1.size, HX2.out.2.1, HX2.out.2.2.1.trans (Kp.of (F := F) hB1) (fun _ h => Or.inl h), HX2.out.2.2.2.1⟩
    have HS1 := (⟨cell_later hB1 HS0.1, cell_later hB1 HS0.2.1, cell_later hB1 HS0.2.2.1, cell_later hB1 HS0.2.2.2.1, cell_later hB1 HS0.2.2.2.2.1, cell_later hB1 HS0.2.2.2.2.2⟩ : _ ∧ _ ∧ _ ∧ _ ∧ _ ∧ _)
    refine hK.out _ _ HS1 (fun HS => ?_)
    clear hK K hB1 C1 HX2 HS0
    try simp only [Act.put, List.getElem_toArray, List.getElem_cons_succ, List.getElem_cons_zero, List.setIfInBounds_toArray, List.set_cons_zero, List.set_cons_succ]
    refine wpAnyH_ready (rs := [7]) (by kernel_rfl) (by simp) ?_
    refine AllReadyH.cons rfl (fun K hK => ?_) AllReadyH.nil
    refine bdSl rfl _ _ rfl g which a room hd HH.out.2.1 rfl rfl ?_
    refine hK.out _ _ HS1 (fun HS => ?_)
    clear hK K
    try simp only [Act.put, List.getElem_toArray, List.getElem_cons_succ, List.getElem_cons_zero, List.setIfInBounds_toArray, List.set_cons_zero, List.set_cons_succ]
    refine wpAnyH_ready (rs := [8]) (by kernel_rfl) (by simp) ?_
    refine AllReadyH.cons rfl (fun K hK => ?_) AllReadyH.nil
    go_simp
    refine (swrite16 V q1 g F1 (twS a d s) which a room hd HH.out.2 HX3.out.1 HU.out).mono ?_
    rintro e q2 ⟨rfl, hA⟩
    have HA : Hid (Ad V.Dt (.pointer (some ⟨g, 0, none⟩)) F (swS a hd (twS a d s)) w q2) := ad_tr HX3.out.2.1 HX3.out.2.2.1 hA
    obtain ⟨F2, -, -, z3⟩ := hA
    refine hK.out _ _ ⟨z3.cell HX3.out.2.2.2 HS1.1, z3.cell HX3.out.2.2.2 HS1.2.1, z3.cell HX3.out.2.2.2 HS1.2.2.1, z3.cell HX3.out.2.2.2 HS1.2.2.2.1, z3.cell HX3.out.2.2.2 HS1.2.2.2.2.1, z3.cell HX3.out.2.2.2 HS1.2.2.2.2.2⟩ (fun HS => ?_)
    clear hK K z3 HX3 HS1
    try simp only [Act.put, List.getElem_toArray, List.getElem_cons_succ, List.getElem_cons_zero, List.setIfInBounds_toArray, List.set_cons_zero, List.set_cons_succ]
    refine wpAnyH_take (i := 9) (v := ?v7) rfl (by kernel_rfl) (by kernel_rfl) (by kernel_rfl) (fun _ _ _ h => h) (Or.inl ⟨by kernel_rfl, ?h7⟩) HS ?r7
    case h7 => (rintro w ⟨c0, c1, c2, c3, c4, c5⟩; go_simp) <;> with_reducible rfl
    try simp only [Act.put, List.getElem_toArray, List.getElem_cons_succ, List.getElem_cons_zero, List.setIfInBounds_toArray, List.set_cons_zero, List.set_cons_succ]
    refine wpAnyH_done (by kernel_rfl) ?_ _
    clear HS
    go_wp2_with fail
    go_ret
    exact ⟨by rw [HE2.out.1]; rfl, by rw [HE2.out.2]; exact HA.out⟩
  · have hEI : ¬ (E : Int) = 0 := by omega
    have HE2 : Hid (kpE a n d s = E ∧ kpS a n d s = twS a d s) := by have := HE.out; rw [if_pos hE0, if_pos hE0] at this; exact this
    clear HE
    go_wp2_with fail
    go_ret
    exact ⟨by rw [HE2.out.1]; rfl, by rw [HE2.out.2]; exact ⟨F1, HX1.out.1, HX1.out.2.1, HX1.out.2.2.1⟩⟩
end Go.Proofs.YthnpdcblfocemaaGreatDoor
set_option linter.unusedVariables false
set_option linter.unusedSimpArgs false
namespace Go.Proofs.YthnpdcblfocemaaGreatDoor
open Go.RowKit

theorem make_cap16 (c : Nat) (hc : c ≤ 2000000) (w : World) : ∃ w', (Instr.makeSlice 30 (.int .i64 0) (.int .i64 (c : Int))).run Tryz.prog w = .ok (.slice (some ⟨w.heap.size, 0, none⟩) 0 c) w' ∧ Ob w.heap.size w' (.slice (some ⟨w.heap.size, 0, none⟩) 0 c) [] ∧ Below w.heap.size w w' := by
  obtain ⟨i0, hti, hi0, hi1, hi2⟩ := byteInfo
  obtain ⟨w', h1, h2, h3⟩ := run_make_own (P := Tryz.prog) w w.heap.size 30 5 i0 (.int .u8 0) 1 Tryz.underlying30 hti hi0 hi1 .i64 .i64 c (by rw [hi2]; omega) (by unfold maxLen; omega) (Nat.le_refl _)
  exact ⟨w', h1, h2, (Below.refl _ _).grown h3 (Nat.le_refl _) (fun k hk => by cases hk)⟩
theorem sdat_step (B : Nat → List Nat) (a room j k : Nat) (hj : j < room) (hk : k ≤ 128) (h : ∀ i, i < room → (B (a + 1 + i)).length = 128) :
    (sdat B a room).take (j * 128) ++ (B (a + 1 + j)).take k = (sdat B a room).take (j * 128 + k) := by
  obtain ⟨r, rfl⟩ : ∃ r, room = j + 1 + r := ⟨room - (j + 1), by omega⟩
  have e : sdat B a (j + 1 + r) = sdat B a j ++ (B (a + 1 + j) ++ ((List.range r).map (j + 1 + ·)).flatMap fun i => B (a + 1 + i)) := by
    unfold sdat
    rw [List.range_add, List.flatMap_append, List.range_succ, List.flatMap_append, List.append_assoc]
    simp
  have hl : (sdat B a j).length = j * 128 := sdat_len (fun i hi => h i (by omega))
  have hb : (B (a + 1 + j)).length = 128 := h j (by omega)
  rw [e, List.take_append_of_le_length (by omega), List.take_of_length_le (by omega), ← hl, List.take_length_add_append, List.take_append_of_le_length (by omega)]
theorem sdat_take (B : Nat → List Nat) (a room : Nat) (h : ∀ i, i < room → (B (a + 1 + i)).length = 128) (n : Nat) (hn : n ≤ room * 128) : ((sdat B a room).take n).length = n := by
  have hl : (sdat B a room).length = room * 128 := sdat_len h
  rw [List.length_take]; omega
structure Rd16 (w1 : World) (x : List Nat) (size j : Nat) (v : Value) (X : World) : Prop where
  o : Ob w1.heap.size X v (x.take (min (j * 128) size))
  b : Below w1.heap.size w1 X
set_option maxRecDepth 100000 in
set_option maxHeartbeats 8000000 in
theorem readp16 (V : Disk1) (w : World) (g : Nat) (F : Nat → Prop) (s : Dsk) (which a room size : Nat) (hD : V.Dt w (.pointer (some ⟨g, 0, none⟩)) F s) (hd : s.dn = false) (hr : a + 1 + room ≤ s.bl.length) (hbl : s.bl.length ≤ 1000) (hz : size ≤ room * 128) :
    Calls Tryz.prog 93 #[.agg #[.pointer (some ⟨g, 0, none⟩), .int .i64 (which : Int), .int .i64 (a : Int), .int .i64 (room : Int)], .int .i64 (size : Int)] w fun e w' => ∃ v, e = .returned (.tuple #[v, .int .i64 0]) ∧ Bs w' v ((sdat (rb s) a room).take size) ∧ Ow w.heap.size v ∧ Below w.heap.size w w' := by
  obtain ⟨x, hx⟩ : ∃ x, sdat (rb s) a room = x := ⟨_, rfl⟩
  have hok := V.dtO hD
  have hlen : ∀ i, i < room → (rb s (a + 1 + i)).length = 128 := fun i hi => (okD_rb hok hd (a + 1 + i) (by omega)).2.1
  have HL : Hid ((∀ n, n ≤ room * 128 → (x.take n).length = n) ∧ (∀ j k, j < room → k ≤ 128 → x.take (j * 128) ++ (rb s (a + 1 + j)).take k = x.take (j * 128 + k)) ∧ ∀ i, i < room → dAsk s ((a + 1 + i : Nat) : Int) = 0 ∧ (rb s (a + 1 + i)).length = 128) := by
    rw [← hx]
    exact ⟨sdat_take _ _ _ hlen, fun j k h1 h2 => sdat_step _ a room j k h1 h2 hlen, fun i hi => ⟨(okD_rb hok hd (a + 1 + i) (by omega)).1, hlen i hi⟩⟩
  rw [hx]
  have HZ : Hid (size ≤ room * 128 ∧ room ≤ 1000 ∧ a ≤ 1000) := ⟨hz, by omega, by omega⟩
  obtain ⟨w1, hw1⟩ : ∃ w1, w1 = w.alloc (.cells #[.pointer (some ⟨g, 0, none⟩), .int .i64 (which : Int), .int .i64 (a : Int), .int .i64 (room : Int)] 126) := ⟨_, rfl⟩
  have hb1 : Below w.heap.size w w1 := by rw [hw1]; exact bel1 _ _
  have hs1 : w1.heap.size = w.heap.size + 1 := by rw [hw1]; simp
  have x0 : w1.cell? ⟨w.heap.size, 0, none⟩ = some (.pointer (some ⟨g, 0, none⟩)) := by rw [hw1]; simp [go_sem]
  have x2 : w1.cell? ⟨w.heap.size, 2, none⟩ = some (.int .i64 (a : Int)) := by rw [hw1]; simp [go_sem]
  obtain ⟨w2, hmk, hO2, hB2⟩ := make_cap16 size (by omega) w1
  have HB : Hid (Below w.heap.size w w1 ∧ w1.heap.size = w.heap.size + 1 ∧ V.Dt w1 (.pointer (some ⟨g, 0, none⟩)) F s ∧ w1.cell? ⟨w.heap.size, 0, none⟩ = some (.pointer (some ⟨g, 0, none⟩))) := ⟨hb1, hs1, V.dtK hD (fun i hi => hb1.block i (V.dtB hD i hi)) hb1.size, x0⟩
  have x2' := cell_later hB2 x2
  have H0 : Hid (Rd16 w1 x size 0 (.slice (some ⟨w1.heap.size, 0, none⟩) 0 size) w2) := ⟨by rw [Nat.zero_mul, Nat.zero_min, List.take_zero]; exact hO2, hB2⟩
  obtain ⟨a1, ha1⟩ : ∃ a1, a + 1 = a1 := ⟨_, rfl⟩
  have y1 : IntKind.i64.wrap ((a : Int) + 1) = (a1 : Int) := by rw [IntKind.wrap_i64]; omega
  rw [ha1] at HL
  have HA1 : Hid (a1 ≤ 1001) := by show _ ≤ _; omega
  obtain ⟨cnt, hcnt⟩ : ∃ cnt, (size + 127) / 128 = cnt := ⟨_, rfl⟩
  have HC : Hid ((size + 127) / 128 = cnt) := hcnt
  clear hx hlen hb1 hs1 hO2 hD hok hr hbl hz ha1 hcnt x0 x2
  go_enter Tryz.func93, Tryz.ntmps93
  go_upto_region 1 with fail
  rw [← hw1]
  clear hw1
  go_upto_region 3 with fail
  go_loopw [6, 7] (fun s6 s7 wr => ∃ j : Nat, s7 = .int .i64 ((a1 + j : Nat) : Int) ∧ j ≤ cnt ∧ Hid (Rd16 w1 x size j s6 wr)) (fun _ s7 _ => (a1 + cnt) - (intOf s7).toNat)
  case atStart => exact ⟨0, rfl, Nat.zero_le _, H0.out⟩
  case round =>
    obtain ⟨j, rfl, hj, HW⟩ := hrel
    clear H0 x2' y1 hmk
    by_cases hlt : j * 128 < size
    · obtain ⟨L, hL⟩ : ∃ L, j * 128 = L := ⟨_, rfl⟩
      have hroom := HZ.out.1
      have hroom2 := HZ.out.2.1
      have hjr : j < room := by omega
      have hmin : min (j * 128) size = L := by omega
      have hlL := HL.out.1 L (by omega)
      have hOb := HW.out.o
      rw [hmin] at hOb
      obtain ⟨ad6, cap6, rfl⟩ := hOb.sl
      rw [hlL] at hOb ⊢
      have HO : Hid (Ob w1.heap.size wr (.slice ad6 L cap6) (x.take L)) := hOb
      obtain ⟨q, hq⟩ : ∃ q, a1 + j = q := ⟨_, rfl⟩
      have hq1 : q ≤ 2500 := by have := HA1.out; have := HZ.out; omega
      have hask := HL.out.2.2 j hjr
      have hstep := HL.out.2.1 j
      rw [hq] at hask
      simp only [hL, hq] at hstep
      have HR : Hid ((rb s q).length = 128) := hask.2
      have C := V.read wr _ F s (q : Int) (V.dtK HB.out.2.2.1 (fun i hi => HW.out.b.block i (V.dtB HB.out.2.2.1 i hi)) HW.out.b.size)
      rw [hask.1] at C
      have hx0 := cell_later HW.out.b HB.out.2.2.2
      have hLI : (L : Int) < (size : Int) := by omega
      obtain ⟨e, he⟩ : ∃ e, size - L = e := ⟨_, rfl⟩
      have heI : IntKind.i64.wrap ((size : Int) - (L : Int)) = (e : Int) := by rw [IntKind.wrap_i64]; omega
      have hqw : IntKind.i64.wrap ((q : Int) + 1) = ((a1 + (j + 1) : Nat) : Int) := by rw [IntKind.wrap_i64]; omega
      have HJ : Hid (j * 128 = L ∧ j + 1 ≤ cnt ∧ size - L = e ∧ L < size ∧ size ≤ 2000000 ∧ ∀ k, k ≤ 128 → x.take L ++ (rb s q).take k = x.take (L + k)) := ⟨hL, by have := HC.out; omega, he, by omega, by omega, fun k hk => hstep k hjr hk⟩
      have HQ : Hid (a1 + j = q) := hq
      rw [hq]
      clear hOb hmin hlL hask hstep hL hlt hroom hroom2 hjr hq he
      by_cases q8 : 128 ≤ e
      · have q8I : (128 : Int) ≤ (e : Int) := by omega
        go_upto_region 6 with (go_at_call 87; refine C.mono ?_; rintro e' wz ⟨v7, rfl, hL7, ⟨hO7, -⟩, hB7⟩; clear C)
        have hl7 := hL7.len
        obtain ⟨ad7, cap7, e7, l1, l2⟩ := hl7
        have er : (rdB s (q : Int)).length = 128 := HR.out
        rw [er] at e7 l1
        subst e7
        have hBk : Hid (Bs wz (.slice ad7 128 cap7) ((rb s q).take 128)) := bs_takeS hL7 128 (by rw [er]; omega)
        have HO2 : Hid (Ob w1.heap.size wz (.slice ad6 L cap6) (x.take L) ∧ Below w1.heap.size w1 wz ∧ w1.heap.size ≤ wz.heap.size) := ⟨HO.out.later hB7, bchain HW.out.b hB7, Nat.le_trans HW.out.b.size hB7.size⟩
        have l1I : (128 : Int) ≤ (cap7 : Int) := by omega
        have hlx : Hid ((x.take L).length + ((rb s q).take 128).length ≤ 1073741824) := by
          show _ ≤ _
          have h1 := List.length_take (i := 128) (l := rb s q)
          have h2 := List.length_take_le L x
          have := HJ.out.2.2.2
          omega
        clear hL7 hO7 hB7 er HO HW hx0
        go_wp2_with (at_builtin; refine apB rfl _ _ rfl w1.heap.size _ _ rfl HO2.out.1 _ _ rfl hBk.out hlx.out HO2.out.2.2 ?_; intro v' w3 hO3 hg)
        have HW3 : Hid (Rd16 w1 x size (j + 1) v' w3) := by
          refine ⟨?_, hg.1 _ HO2.out.2.1⟩
          rw [HJ.out.2.2.2.2.2 128 (by omega)] at hO3
          have e2 : min ((j + 1) * 128) size = L + 128 := by have := HJ.out; omega
          rw [e2]
          exact hO3
        have HJ1 : Hid (j + 1 ≤ cnt) := HJ.out.2.1
        have hqm : q = a1 + j := HQ.out.symm
        clear hO3 hg HO2 hBk hlx
        go_roundw
        case rel => exact ⟨j + 1, by go_num, HJ1.out, HW3.out⟩
        case measure => simp only [intOf]; have := HJ1.out; omega
      · have q8I : ¬ (128 : Int) ≤ (e : Int) := by omega
        go_upto_region 6 with (go_at_call 87; refine C.mono ?_; rintro e' wz ⟨v7, rfl, hL7, ⟨hO7, -⟩, hB7⟩; clear C)
        have hl7 := hL7.len
        obtain ⟨ad7, cap7, e7, l1, l2⟩ := hl7
        have er : (rdB s (q : Int)).length = 128 := HR.out
        rw [er] at e7 l1
        subst e7
        have hBk : Hid (Bs wz (.slice ad7 e cap7) ((rb s q).take e)) := bs_takeS hL7 e (by rw [er]; omega)
        have HO2 : Hid (Ob w1.heap.size wz (.slice ad6 L cap6) (x.take L) ∧ Below w1.heap.size w1 wz ∧ w1.heap.size ≤ wz.heap.size) := ⟨HO.out.later hB7, bchain HW.out.b hB7, Nat.le_trans HW.out.b.size hB7.size⟩
        have l1I : (e : Int) ≤ (cap7 : Int) := by omega
        have hlx : Hid ((x.take L).length + ((rb s q).take e).length ≤ 1073741824) := by
          show _ ≤ _
          have h1 := List.length_take (i := e) (l := rb s q)
          have h2 := List.length_take_le L x
          have := HJ.out.2.2.2
          omega
        clear hL7 hO7 hB7 er HO HW hx0
        go_wp2_with (at_builtin; refine apB rfl _ _ rfl w1.heap.size _ _ rfl HO2.out.1 _ _ rfl hBk.out hlx.out HO2.out.2.2 ?_; intro v' w3 hO3 hg)
        have HW3 : Hid (Rd16 w1 x size (j + 1) v' w3) := by
          refine ⟨?_, hg.1 _ HO2.out.2.1⟩
          rw [HJ.out.2.2.2.2.2 e (by omega)] at hO3
          have e2 : min ((j + 1) * 128) size = L + e := by have := HJ.out; omega
          rw [e2]
          exact hO3
        have HJ1 : Hid (j + 1 ≤ cnt) := HJ.out.2.1
        have hqm : q = a1 + j := HQ.out.symm
        clear hO3 hg HO2 hBk hlx
        go_roundw
        case rel => exact ⟨j + 1, by go_num, HJ1.out, HW3.out⟩
        case measure => simp only [intOf]; have := HJ1.out; omega
    · have hmin : min (j * 128) size = size := by omega
      have hlL := HL.out.1 size HZ.out.1
      have hOb := HW.out.o
      rw [hmin] at hOb
      obtain ⟨ad6, cap6, rfl⟩ := hOb.sl
      rw [hlL] at hOb ⊢
      have HO : Hid (Ob w1.heap.size wr (.slice ad6 size cap6) (x.take size) ∧ Below w.heap.size w wr) := ⟨hOb, bchain HB.out.1 HW.out.b⟩
      have hLI : ¬ (size : Int) < (size : Int) := by omega
      clear hOb hmin hlL hlt HW
      go_wp2
      go_ret2
      refine ⟨_, rfl, HO.out.1.bs.1, fun a' n' c' e' hn' => ?_, HO.out.2⟩
      have h1 := HO.out.1.bs.2 a' n' c' e' hn'
      have h2 := HB.out.2.1
      omega
end Go.Proofs.YthnpdcblfocemaaGreatDoor
