/-
  Texts of this proof, joined: JqA.
-/
import Derived.Test.YthnpdcblfocemaaGreatDoorSP09
import Derived.Test.YthnpdcblfocemaaGreatDoorSP12
import Derived.Test.YthnpdcblfocemaaGreatDoorSP20
import Derived.Test.YthnpdcblfocemaaGreatDoorSP26
import Derived.Deep.RegionHeld
set_option linter.unusedVariables false
set_option linter.unusedSimpArgs false
namespace Go.Proofs.YthnpdcblfocemaaGreatDoor
open Go.RowKit

def plJ (g n b : Nat) : Value := .agg #[.int .i64 (g : Int), .int .i64 (n : Int), .int .i64 (b : Int)]
def tgL (a b c d e : Nat) : List Value := [.int .u64 (a : Int), .int .u64 (b : Int), .int .u64 (c : Int), .int .u64 (d : Int), .int .u64 (e : Int)]
def tgV (a b c d e : Nat) : Value := .agg #[.int .u64 (a : Int), .int .u64 (b : Int), .int .u64 (c : Int), .int .u64 (d : Int), .int .u64 (e : Int)]
set_option maxRecDepth 100000 in
set_option maxHeartbeats 4000000 in
theorem needs17 (n : Nat) (hn : n ≤ 1000000000000) (w : World) :
    Calls Tryz.prog 57 #[.int .i64 (n : Int)] w fun e w' => e = .returned (.int .i64 ((prt n : Nat) : Int)) ∧ w' = w := by
  obtain ⟨a, ha⟩ : ∃ a, n + 104 = a := ⟨_, rfl⟩
  obtain ⟨b, hb⟩ : ∃ b, n + 103 = b := ⟨_, rfl⟩
  obtain ⟨q, hq⟩ : ∃ q, b / 104 = q := ⟨_, rfl⟩
  have y1 : IntKind.i64.wrap ((n : Int) + 104) = (a : Int) := by rw [IntKind.wrap_i64]; omega
  have y2 : IntKind.i64.wrap ((a : Int) - 1) = (b : Int) := by rw [IntKind.wrap_i64]; omega
  have y3 : (b : Int).tdiv 104 = (q : Int) := by rw [Int.tdiv_eq_ediv_of_nonneg (by omega)]; omega
  have y4 : IntKind.i64.wrap (q : Int) = (q : Int) := by rw [IntKind.wrap_i64]; omega
  have hp : prt n = max 1 q := by unfold prt; rw [hb, hq]
  rw [hp]
  clear ha hb hq hn hp
  by_cases h1 : 1 < q
  · rw [Nat.max_eq_right (by omega)]
    have h1I : ¬ (q : Int) ≤ 1 := by omega
    go_enter Tryz.func57, Tryz.ntmps57
    go_wp2
    go_ret
    exact ⟨rfl, rfl⟩
  · rw [Nat.max_eq_left (by omega)]
    have h1I : (q : Int) ≤ 1 := by omega
    go_enter Tryz.func57, Tryz.ntmps57
    go_wp2
    go_ret
    exact ⟨rfl, rfl⟩
set_option maxRecDepth 100000 in
set_option maxHeartbeats 4000000 in
theorem first17 (g : Nat) (w : World) :
    Calls Tryz.prog 67 #[.int .i64 (g : Int)] w fun e w' => e = .returned (plJ g 1 0) ∧ Below w.heap.size w w' := by
  go_enter Tryz.func67, Tryz.ntmps67
  go_wp2
  exact bodyPost_ret (v := plJ g 1 0) (by simp [results, Tryz.results67, go_sem, plJ]) rfl ⟨rfl, bel1 _ _⟩
def plL (g n b : Nat) : List Value := [.int .i64 (g : Int), .int .i64 (n : Int), .int .i64 (b : Int)]
theorem info_pl17 : (Tryz.prog.info? 117).map (fun i => (i.zero, i.size)) = some (some (.agg (plL 0 0 0).toArray), 3) := by kernel_rfl
theorem sz_pl17 : (Tryz.prog.info? 117).map (·.size) = some 3 := by kernel_rfl
theorem zero_pl17 (w : World) : (zeroValue 117).run Tryz.prog w = .ok (.agg (plL 0 0 0).toArray) w := by
  have h := info_pl17
  cases hq : Tryz.prog.info? 117 with
  | none => rw [hq] at h; simp at h
  | some i =>
    rw [hq] at h
    simp only [Option.map_some, Option.some.injEq, Prod.mk.injEq] at h
    simp [zeroValue, typeInfo, hq, h.1]
theorem plL_one (g n b : Nat) : ∀ u ∈ plL g n b, u.oneCell' = true := by
  intro u hu
  simp only [plL, List.mem_cons, List.not_mem_nil, or_false] at hu
  rcases hu with rfl | rfl | rfl <;> rfl
theorem info_tg17 : (Tryz.prog.info? 139).map (fun i => (i.zero, i.size)) = some (some (.agg (tgL 0 0 0 0 0).toArray), 5) := by kernel_rfl
theorem sz_tg17 : (Tryz.prog.info? 139).map (·.size) = some 5 := by kernel_rfl
theorem zero_tg17 (w : World) : (zeroValue 139).run Tryz.prog w = .ok (.agg (tgL 0 0 0 0 0).toArray) w := by
  have h := info_tg17
  cases hq : Tryz.prog.info? 139 with
  | none => rw [hq] at h; simp at h
  | some i =>
    rw [hq] at h
    simp only [Option.map_some, Option.some.injEq, Prod.mk.injEq] at h
    simp [zeroValue, typeInfo, hq, h.1]
theorem tgL_one (a b c d e : Nat) : ∀ u ∈ tgL a b c d e, u.oneCell' = true := by
  intro u hu
  simp only [tgL, List.mem_cons, List.not_mem_nil, or_false] at hu
  rcases hu with rfl | rfl | rfl | rfl | rfl <;> rfl
theorem stJ {ops : Array Oper} {o : Oper} {a : Act} {w : World} {K : Act → World → Prop} {Q : Exit → Act → World → Prop} {E : Prop} (hgd : o.guard = none) (T : TypeId) (x y : Operand) (ho : o.op = .store T x y)
    (g : Nat) (xs ys : List Value) (hx : a.eval x = .pointer (some ⟨g, 0, none⟩)) (hy : a.eval y = .agg ys.toArray) (hV : Vb w g T xs) (hn : ys.length = xs.length) (hi : (Tryz.prog.info? T).map (·.size) = some ys.length) (h1 : ∀ v ∈ ys, v.oneCell' = true)
    (h : ∀ w', Vb w' g T ys → Kp (fun k => k = g) w w' → w'.heap.size = w.heap.size → K (a.put o.dst undef) w') : if Region.wanted o (yielded ops a.tmps) = true then Oper.wp Tryz.prog o a w K Q else E := by
  have hw : Region.wanted o (yielded ops a.tmps) = true := by simp [Region.wanted, hgd]
  rw [if_pos hw]
  exact wp_store_row T x y ho g ys.toArray hx hy T xs.toArray hV (by simpa using hi) (by simpa using hn.symm) (all_oneCell_toArray h1)
    (h _ (setRow_heap _ _ _ _ _ _ hV) ⟨rfl, rfl, rfl, by simp [World.setRow], fun k _ hk => setRow_other _ _ _ _ hk⟩ (by simp [World.setRow]))
structure Pl3 (w : World) (c g n b : Nat) : Prop where
  c0 : w.cell? ⟨c, 0, none⟩ = some (.int .i64 (g : Int))
  c1 : w.cell? ⟨c, 1, none⟩ = some (.int .i64 (n : Int))
  c2 : w.cell? ⟨c, 2, none⟩ = some (.int .i64 (b : Int))
theorem Pl3.kept {w w' : World} {c g n b : Nat} (h : Pl3 w c g n b) (k : w'.heap[c]? = w.heap[c]?) : Pl3 w' c g n b :=
  ⟨cell_blk5 (a := ⟨c, 0, none⟩) k h.c0, cell_blk5 (a := ⟨c, 1, none⟩) k h.c1, cell_blk5 (a := ⟨c, 2, none⟩) k h.c2⟩
theorem Pl3.lt {w : World} {c g n b : Nat} (h : Pl3 w c g n b) : c < w.heap.size := World.block_lt_of_cell? _ _ h.c0
theorem Pl3.later {w w' : World} {c g n b : Nat} (h : Pl3 w c g n b) (k : Below w.heap.size w w') : Pl3 w' c g n b := h.kept (k.block _ h.lt)
set_option maxRecDepth 100000 in
set_option maxHeartbeats 8000000 in
theorem behind17 (g n b z : Nat) (hn : n ≤ 1000000000) (hb : b ≤ 1000000000) (hz1 : z ≤ 1000000000) (w : World) :
    Calls Tryz.prog 59 #[plJ g n b, .int .i64 (z : Int)] w fun e w' => e = .returned (plJ g (n + 1) (b + prt z)) ∧ Below w.heap.size w w' := by
  have hN := needs17 z (by omega)
  have hz := zero_pl17
  obtain ⟨k, hk⟩ : ∃ k, prt z = k := ⟨_, rfl⟩
  have hk2 : k ≤ 1000000001 := by have := prt_le z; omega
  obtain ⟨n1, hn1⟩ : ∃ n1, n + 1 = n1 := ⟨_, rfl⟩
  obtain ⟨b1, hb1⟩ : ∃ b1, b + k = b1 := ⟨_, rfl⟩
  have y1 : IntKind.i64.wrap ((n : Int) + 1) = (n1 : Int) := by rw [IntKind.wrap_i64]; omega
  have y2 : IntKind.i64.wrap ((b : Int) + (k : Int)) = (b1 : Int) := by rw [IntKind.wrap_i64]; omega
  rw [hk] at hN
  rw [hk, hb1, hn1]
  obtain ⟨w1, hw1⟩ : ∃ w1, w1 = w.alloc (.cells #[.int .i64 (g : Int), .int .i64 (n : Int), .int .i64 (b : Int)] 117) := ⟨_, rfl⟩
  have HP1 : Hid (Pl3 w1 w.heap.size g n b ∧ Below w.heap.size w w1 ∧ w1.heap.size = w.heap.size + 1) := by rw [hw1]; exact ⟨⟨by simp [go_sem], by simp [go_sem], by simp [go_sem]⟩, bel1 _ _, by simp⟩
  unfold plJ
  clear hn hb hz1 hk hk2 hn1 hb1
  go_enter Tryz.func59, Tryz.ntmps59
  go_upto_region 1 with (refine alV rfl 117 (plL 0 0 0) hz rfl ?_; rw [← hw1]; intro w2 hV2 hB2 hS2; rw [HP1.out.2.2] at hV2; rw [HP1.out.2.2])
  have HPd : Hid (Pl3 w2.drew w.heap.size g n b ∧ Vb w2.drew (w.heap.size + 1) 117 (plL 0 0 0) ∧ Below w.heap.size w w2.drew) := ⟨(HP1.out.1.later hB2).later (Below.refl _ _).drew, hV2, (bchain HP1.out.2.1 hB2).drew⟩
  refine wp_region_held_drew (S := fun W => Pl3 W w.heap.size g n b) (by kernel_rfl) HPd.out.1 (fun HS => ?_)
  clear hV2 hB2 hS2 HP1 hz hw1
  generalize w2.drew = q0 at *
  refine wpAnyH_take (i := 0) (v := ?v1) rfl (by kernel_rfl) (by kernel_rfl) (by kernel_rfl) (fun _ _ _ h => h) (Or.inl ⟨by kernel_rfl, ?h1⟩) HS ?r1
  case h1 => (rintro w ⟨n0, n1, n2⟩; go_simp) <;> with_reducible rfl
  try simp only [Act.put, List.getElem_toArray, List.getElem_cons_succ, List.getElem_cons_zero, List.setIfInBounds_toArray, List.set_cons_zero, List.set_cons_succ]
  refine wpAnyH_take (i := 1) (v := ?v2) rfl (by kernel_rfl) (by kernel_rfl) (by kernel_rfl) (fun _ _ _ h => h) (Or.inl ⟨by kernel_rfl, ?h2⟩) HS ?r2
  case h2 => (rintro w ⟨n0, n1, n2⟩; go_simp) <;> with_reducible rfl
  try simp only [Act.put, List.getElem_toArray, List.getElem_cons_succ, List.getElem_cons_zero, List.setIfInBounds_toArray, List.set_cons_zero, List.set_cons_succ]
  refine wpAnyH_take (i := 2) (v := ?v3) rfl (by kernel_rfl) (by kernel_rfl) (by kernel_rfl) (fun _ _ _ h => h) (Or.inl ⟨by kernel_rfl, ?h3⟩) HS ?r3
  case h3 => (rintro w ⟨n0, n1, n2⟩; go_simp) <;> with_reducible rfl
  try simp only [Act.put, List.getElem_toArray, List.getElem_cons_succ, List.getElem_cons_zero, List.setIfInBounds_toArray, List.set_cons_zero, List.set_cons_succ]
  refine wpAnyH_take (i := 3) (v := ?v4) rfl (by kernel_rfl) (by kernel_rfl) (by kernel_rfl) (fun _ _ _ h => h) (Or.inl ⟨by kernel_rfl, ?h4⟩) HS ?r4
  case h4 => (rintro w ⟨n0, n1, n2⟩; go_simp) <;> with_reducible rfl
  try simp only [Act.put, List.getElem_toArray, List.getElem_cons_succ, List.getElem_cons_zero, List.setIfInBounds_toArray, List.set_cons_zero, List.set_cons_succ]
  refine wpAnyH_take (i := 4) (v := ?v5) rfl (by kernel_rfl) (by kernel_rfl) (by kernel_rfl) (fun _ _ _ h => h) (Or.inl ⟨by kernel_rfl, ?h5⟩) HS ?r5
  case h5 => (rintro w ⟨n0, n1, n2⟩; go_simp) <;> with_reducible rfl
  try simp only [Act.put, List.getElem_toArray, List.getElem_cons_succ, List.getElem_cons_zero, List.setIfInBounds_toArray, List.set_cons_zero, List.set_cons_succ]
  refine wpAnyH_take (i := 5) (v := ?v6) rfl (by kernel_rfl) (by kernel_rfl) (by kernel_rfl) (fun _ _ _ h => h) (Or.inl ⟨by kernel_rfl, ?h6⟩) HS ?r6
  case h6 => (rintro w ⟨n0, n1, n2⟩; go_simp) <;> with_reducible rfl
  try simp only [Act.put, List.getElem_toArray, List.getElem_cons_succ, List.getElem_cons_zero, List.setIfInBounds_toArray, List.set_cons_zero, List.set_cons_succ]
  refine wpAnyH_take (i := 6) (v := ?v7) rfl (by kernel_rfl) (by kernel_rfl) (by kernel_rfl) (fun _ _ _ h => h) (Or.inl ⟨by kernel_rfl, ?h7⟩) HS ?r7
  case h7 => (rintro w ⟨n0, n1, n2⟩; go_simp) <;> with_reducible rfl
  try simp only [Act.put, List.getElem_toArray, List.getElem_cons_succ, List.getElem_cons_zero, List.setIfInBounds_toArray, List.set_cons_zero, List.set_cons_succ]
  refine wpAnyH_take (i := 7) (v := ?v8) rfl (by kernel_rfl) (by kernel_rfl) (by kernel_rfl) (fun _ _ _ h => h) (Or.inl ⟨by kernel_rfl, ?h8⟩) HS ?r8
  case h8 => (rintro w ⟨n0, n1, n2⟩; go_simp) <;> with_reducible rfl
  try simp only [Act.put, List.getElem_toArray, List.getElem_cons_succ, List.getElem_cons_zero, List.setIfInBounds_toArray, List.set_cons_zero, List.set_cons_succ]
  refine wpAnyH_ready (rs := [8]) (by kernel_rfl) (by simp) ?_
  refine AllReadyH.cons rfl (fun K hK => ?_) AllReadyH.nil
  go_simp
  refine (hN q0).mono ?_
  rintro e q1 ⟨rfl, hq1⟩
  have hq2 := hq1.symm
  subst hq2
  refine hK.out _ _ HPd.out.1 (fun HS => ?_)
  clear hK K hq1
  try simp only [Act.put, List.getElem_toArray, List.getElem_cons_succ, List.getElem_cons_zero, List.setIfInBounds_toArray, List.set_cons_zero, List.set_cons_succ]
  refine wpAnyH_take (i := 9) (v := ?v9) rfl (by kernel_rfl) (by kernel_rfl) (by kernel_rfl) (fun _ _ _ h => h) (Or.inl ⟨by kernel_rfl, ?h9⟩) HS ?r9
  case h9 => (rintro w ⟨n0, n1, n2⟩; go_simp) <;> with_reducible rfl
  try simp only [Act.put, List.getElem_toArray, List.getElem_cons_succ, List.getElem_cons_zero, List.setIfInBounds_toArray, List.set_cons_zero, List.set_cons_succ]
  refine wpAnyH_take (i := 10) (v := ?v10) rfl (by kernel_rfl) (by kernel_rfl) (by kernel_rfl) (fun _ _ _ h => h) (Or.inl ⟨by kernel_rfl, ?h10⟩) HS ?r10
  case h10 => (rintro w ⟨n0, n1, n2⟩; go_simp) <;> with_reducible rfl
  try simp only [Act.put, List.getElem_toArray, List.getElem_cons_succ, List.getElem_cons_zero, List.setIfInBounds_toArray, List.set_cons_zero, List.set_cons_succ]
  refine wpAnyH_ready (rs := [11]) (by kernel_rfl) (by simp) ?_
  refine AllReadyH.cons rfl (fun K hK => ?_) AllReadyH.nil
  refine stJ rfl 117 _ _ rfl (w.heap.size + 1) (plL 0 0 0) (plL g n1 b1) rfl rfl HPd.out.2.1 rfl sz_pl17 (plL_one _ _ _) ?_
  intro q2 hV3 hK3 hS3
  have HF : Hid (Vb q2 (w.heap.size + 1) 117 (plL g n1 b1) ∧ Below w.heap.size w q2) := ⟨hV3, hK3.next HPd.out.2.2 (fun i hi => by omega) HPd.out.2.2.size⟩
  refine hK.out _ _ (HPd.out.1.kept (hK3.block _ HPd.out.1.lt (by omega))) (fun HS => ?_)
  clear hK K hV3 hK3 hS3 HPd HS
  try simp only [Act.put, List.getElem_toArray, List.getElem_cons_succ, List.getElem_cons_zero, List.setIfInBounds_toArray, List.set_cons_zero, List.set_cons_succ]
  refine wpAnyH_done (by kernel_rfl) ?_ _
  go_wp2_with fail
  have c0 := HF.out.1.cell 0 _ rfl
  have c1 := HF.out.1.cell 1 _ rfl
  have c2 := HF.out.1.cell 2 _ rfl
  exact bodyPost_ret (v := plJ g n1 b1) (by simp [results, Tryz.results59, go_sem, plJ, c0, c1, c2]) rfl ⟨rfl, HF.out.2⟩
set_option maxRecDepth 100000 in
set_option maxHeartbeats 8000000 in
theorem ptag17 (g n b z i : Nat) (hg : g < 9223372036854775808) (hn : n ≤ 1000000000) (hz1 : z ≤ 1000000000) (hi : i ≤ 1000000000) (w : World) :
    Calls Tryz.prog 72 #[plJ g n b, .int .i64 (z : Int), .int .i64 (i : Int)] w fun e w' => e = .returned (tgV z (prt z) i n g) ∧ Below w.heap.size w w' := by
  have hN := needs17 z (by omega)
  have hz := zero_tg17
  obtain ⟨k, hk⟩ : ∃ k, prt z = k := ⟨_, rfl⟩
  have hk2 : k ≤ 1000000001 := by have := prt_le z; omega
  have y1 : IntKind.u64.wrap (z : Int) = (z : Int) := by rw [IntKind.wrap_u64]; omega
  have y2 : IntKind.u64.wrap (k : Int) = (k : Int) := by rw [IntKind.wrap_u64]; omega
  have y3 : IntKind.u64.wrap (i : Int) = (i : Int) := by rw [IntKind.wrap_u64]; omega
  have y4 : IntKind.u64.wrap (n : Int) = (n : Int) := by rw [IntKind.wrap_u64]; omega
  have y5 : IntKind.u64.wrap (g : Int) = (g : Int) := by rw [IntKind.wrap_u64]; omega
  rw [hk] at hN
  rw [hk]
  obtain ⟨w1, hw1⟩ : ∃ w1, w1 = w.alloc (.cells #[.int .i64 (g : Int), .int .i64 (n : Int), .int .i64 (b : Int)] 117) := ⟨_, rfl⟩
  have HP1 : Hid (Pl3 w1 w.heap.size g n b ∧ Below w.heap.size w w1 ∧ w1.heap.size = w.heap.size + 1) := by rw [hw1]; exact ⟨⟨by simp [go_sem], by simp [go_sem], by simp [go_sem]⟩, bel1 _ _, by simp⟩
  unfold plJ
  clear hn hg hz1 hk hk2 hi
  go_enter Tryz.func72, Tryz.ntmps72
  go_upto_region 1 with (refine alV rfl 139 (tgL 0 0 0 0 0) hz rfl ?_; rw [← hw1]; intro w2 hV2 hB2 hS2; rw [HP1.out.2.2] at hV2; rw [HP1.out.2.2])
  have HPd : Hid (Pl3 w2.drew w.heap.size g n b ∧ Vb w2.drew (w.heap.size + 1) 139 (tgL 0 0 0 0 0) ∧ Below w.heap.size w w2.drew) := ⟨(HP1.out.1.later hB2).later (Below.refl _ _).drew, hV2, (bchain HP1.out.2.1 hB2).drew⟩
  refine wp_region_held_drew (S := fun W => Pl3 W w.heap.size g n b) (by kernel_rfl) HPd.out.1 (fun HS => ?_)
  clear hV2 hB2 hS2 HP1 hz hw1
  generalize w2.drew = q0 at *
  refine wpAnyH_take (i := 0) (v := ?v11) rfl (by kernel_rfl) (by kernel_rfl) (by kernel_rfl) (fun _ _ _ h => h) (Or.inl ⟨by kernel_rfl, ?h11⟩) HS ?r11
  case h11 => (rintro w ⟨n0, n1, n2⟩; go_simp) <;> with_reducible rfl
  try simp only [Act.put, List.getElem_toArray, List.getElem_cons_succ, List.getElem_cons_zero, List.setIfInBounds_toArray, List.set_cons_zero, List.set_cons_succ]
  refine wpAnyH_take (i := 1) (v := ?v12) rfl (by kernel_rfl) (by kernel_rfl) (by kernel_rfl) (fun _ _ _ h => h) (Or.inl ⟨by kernel_rfl, ?h12⟩) HS ?r12
  case h12 => (rintro w ⟨n0, n1, n2⟩; go_simp) <;> with_reducible rfl
  try simp only [Act.put, List.getElem_toArray, List.getElem_cons_succ, List.getElem_cons_zero, List.setIfInBounds_toArray, List.set_cons_zero, List.set_cons_succ]
  refine wpAnyH_take (i := 2) (v := ?v13) rfl (by kernel_rfl) (by kernel_rfl) (by kernel_rfl) (fun _ _ _ h => h) (Or.inl ⟨by kernel_rfl, ?h13⟩) HS ?r13
  case h13 => (rintro w ⟨n0, n1, n2⟩; go_simp) <;> with_reducible rfl
  try simp only [Act.put, List.getElem_toArray, List.getElem_cons_succ, List.getElem_cons_zero, List.setIfInBounds_toArray, List.set_cons_zero, List.set_cons_succ]
  refine wpAnyH_take (i := 5) (v := ?v14) rfl (by kernel_rfl) (by kernel_rfl) (by kernel_rfl) (fun _ _ _ h => h) (Or.inl ⟨by kernel_rfl, ?h14⟩) HS ?r14
  case h14 => (rintro w ⟨n0, n1, n2⟩; go_simp) <;> with_reducible rfl
  try simp only [Act.put, List.getElem_toArray, List.getElem_cons_succ, List.getElem_cons_zero, List.setIfInBounds_toArray, List.set_cons_zero, List.set_cons_succ]
  refine wpAnyH_take (i := 6) (v := ?v15) rfl (by kernel_rfl) (by kernel_rfl) (by kernel_rfl) (fun _ _ _ h => h) (Or.inl ⟨by kernel_rfl, ?h15⟩) HS ?r15
  case h15 => (rintro w ⟨n0, n1, n2⟩; go_simp) <;> with_reducible rfl
  try simp only [Act.put, List.getElem_toArray, List.getElem_cons_succ, List.getElem_cons_zero, List.setIfInBounds_toArray, List.set_cons_zero, List.set_cons_succ]
  refine wpAnyH_take (i := 7) (v := ?v16) rfl (by kernel_rfl) (by kernel_rfl) (by kernel_rfl) (fun _ _ _ h => h) (Or.inl ⟨by kernel_rfl, ?h16⟩) HS ?r16
  case h16 => (rintro w ⟨n0, n1, n2⟩; go_simp) <;> with_reducible rfl
  try simp only [Act.put, List.getElem_toArray, List.getElem_cons_succ, List.getElem_cons_zero, List.setIfInBounds_toArray, List.set_cons_zero, List.set_cons_succ]
  refine wpAnyH_take (i := 8) (v := ?v17) rfl (by kernel_rfl) (by kernel_rfl) (by kernel_rfl) (fun _ _ _ h => h) (Or.inl ⟨by kernel_rfl, ?h17⟩) HS ?r17
  case h17 => (rintro w ⟨n0, n1, n2⟩; go_simp) <;> with_reducible rfl
  try simp only [Act.put, List.getElem_toArray, List.getElem_cons_succ, List.getElem_cons_zero, List.setIfInBounds_toArray, List.set_cons_zero, List.set_cons_succ]
  refine wpAnyH_take (i := 9) (v := ?v18) rfl (by kernel_rfl) (by kernel_rfl) (by kernel_rfl) (fun _ _ _ h => h) (Or.inl ⟨by kernel_rfl, ?h18⟩) HS ?r18
  case h18 => (rintro w ⟨n0, n1, n2⟩; go_simp) <;> with_reducible rfl
  try simp only [Act.put, List.getElem_toArray, List.getElem_cons_succ, List.getElem_cons_zero, List.setIfInBounds_toArray, List.set_cons_zero, List.set_cons_succ]
  refine wpAnyH_take (i := 10) (v := ?v19) rfl (by kernel_rfl) (by kernel_rfl) (by kernel_rfl) (fun _ _ _ h => h) (Or.inl ⟨by kernel_rfl, ?h19⟩) HS ?r19
  case h19 => (rintro w ⟨n0, n1, n2⟩; go_simp) <;> with_reducible rfl
  try simp only [Act.put, List.getElem_toArray, List.getElem_cons_succ, List.getElem_cons_zero, List.setIfInBounds_toArray, List.set_cons_zero, List.set_cons_succ]
  refine wpAnyH_take (i := 11) (v := ?v20) rfl (by kernel_rfl) (by kernel_rfl) (by kernel_rfl) (fun _ _ _ h => h) (Or.inl ⟨by kernel_rfl, ?h20⟩) HS ?r20
  case h20 => (rintro w ⟨n0, n1, n2⟩; go_simp) <;> with_reducible rfl
  try simp only [Act.put, List.getElem_toArray, List.getElem_cons_succ, List.getElem_cons_zero, List.setIfInBounds_toArray, List.set_cons_zero, List.set_cons_succ]
  refine wpAnyH_take (i := 12) (v := ?v21) rfl (by kernel_rfl) (by kernel_rfl) (by kernel_rfl) (fun _ _ _ h => h) (Or.inl ⟨by kernel_rfl, ?h21⟩) HS ?r21
  case h21 => (rintro w ⟨n0, n1, n2⟩; go_simp) <;> with_reducible rfl
  try simp only [Act.put, List.getElem_toArray, List.getElem_cons_succ, List.getElem_cons_zero, List.setIfInBounds_toArray, List.set_cons_zero, List.set_cons_succ]
  refine wpAnyH_ready (rs := [3]) (by kernel_rfl) (by simp) ?_
  refine AllReadyH.cons rfl (fun K hK => ?_) AllReadyH.nil
  go_simp
  refine (hN q0).mono ?_
  rintro e q1 ⟨rfl, hq1⟩
  have hq2 := hq1.symm
  subst hq2
  refine hK.out _ _ HPd.out.1 (fun HS => ?_)
  clear hK K hq1
  try simp only [Act.put, List.getElem_toArray, List.getElem_cons_succ, List.getElem_cons_zero, List.setIfInBounds_toArray, List.set_cons_zero, List.set_cons_succ]
  refine wpAnyH_take (i := 4) (v := ?v22) rfl (by kernel_rfl) (by kernel_rfl) (by kernel_rfl) (fun _ _ _ h => h) (Or.inl ⟨by kernel_rfl, ?h22⟩) HS ?r22
  case h22 => (rintro w ⟨n0, n1, n2⟩; go_simp) <;> with_reducible rfl
  try simp only [Act.put, List.getElem_toArray, List.getElem_cons_succ, List.getElem_cons_zero, List.setIfInBounds_toArray, List.set_cons_zero, List.set_cons_succ]
  refine wpAnyH_take (i := 13) (v := ?v23) rfl (by kernel_rfl) (by kernel_rfl) (by kernel_rfl) (fun _ _ _ h => h) (Or.inl ⟨by kernel_rfl, ?h23⟩) HS ?r23
  case h23 => (rintro w ⟨n0, n1, n2⟩; go_simp) <;> with_reducible rfl
  try simp only [Act.put, List.getElem_toArray, List.getElem_cons_succ, List.getElem_cons_zero, List.setIfInBounds_toArray, List.set_cons_zero, List.set_cons_succ]
  refine wpAnyH_ready (rs := [14]) (by kernel_rfl) (by simp) ?_
  refine AllReadyH.cons rfl (fun K hK => ?_) AllReadyH.nil
  refine stJ rfl 139 _ _ rfl (w.heap.size + 1) (tgL 0 0 0 0 0) (tgL z k i n g) rfl rfl HPd.out.2.1 rfl sz_tg17 (tgL_one _ _ _ _ _) ?_
  intro q2 hV3 hK3 hS3
  have HF : Hid (Vb q2 (w.heap.size + 1) 139 (tgL z k i n g) ∧ Below w.heap.size w q2) := ⟨hV3, hK3.next HPd.out.2.2 (fun i hi => by omega) HPd.out.2.2.size⟩
  refine hK.out _ _ (HPd.out.1.kept (hK3.block _ HPd.out.1.lt (by omega))) (fun HS => ?_)
  clear hK K hV3 hK3 hS3 HPd HS
  try simp only [Act.put, List.getElem_toArray, List.getElem_cons_succ, List.getElem_cons_zero, List.setIfInBounds_toArray, List.set_cons_zero, List.set_cons_succ]
  refine wpAnyH_done (by kernel_rfl) ?_ _
  go_wp2_with fail
  have c0 := HF.out.1.cell 0 _ rfl
  have c1 := HF.out.1.cell 1 _ rfl
  have c2 := HF.out.1.cell 2 _ rfl
  have c3 := HF.out.1.cell 3 _ rfl
  have c4 := HF.out.1.cell 4 _ rfl
  exact bodyPost_ret (v := tgV z k i n g) (by simp [results, Tryz.results72, go_sem, tgV, c0, c1, c2, c3, c4]) rfl ⟨rfl, HF.out.2⟩
end Go.Proofs.YthnpdcblfocemaaGreatDoor
