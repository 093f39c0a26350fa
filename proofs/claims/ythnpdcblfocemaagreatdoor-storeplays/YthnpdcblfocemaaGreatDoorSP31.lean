/-
  Texts of this proof, joined: SqL SqM.
-/
import Derived.Test.YthnpdcblfocemaaGreatDoorSP14
import Derived.Test.YthnpdcblfocemaaGreatDoorSP30
set_option linter.unusedVariables false
set_option linter.unusedSimpArgs false
namespace Go.Proofs.YthnpdcblfocemaaGreatDoor
open Go.RowKit

structure Ps (w : World) (c g at_ room : Nat) : Prop where
  c0 : w.cell? ⟨c, 0, none⟩ = some (.pointer (some ⟨g, 0, none⟩))
  c1 : w.cell? ⟨c, 1, none⟩ = some (.int .i64 (at_ : Int))
  c2 : w.cell? ⟨c, 2, none⟩ = some (.int .i64 (room : Int))
theorem Ps.kept {w w' : World} {c g at_ room : Nat} (h : Ps w c g at_ room) (k : w'.heap[c]? = w.heap[c]?) : Ps w' c g at_ room :=
  ⟨cell_blk5 (a := ⟨c, 0, none⟩) k h.c0, cell_blk5 (a := ⟨c, 1, none⟩) k h.c1, cell_blk5 (a := ⟨c, 2, none⟩) k h.c2⟩
theorem Ps.lt {w : World} {c g at_ room : Nat} (h : Ps w c g at_ room) : c < w.heap.size := World.block_lt_of_cell? _ _ h.c0
theorem Ps.later {w w' : World} {c g at_ room : Nat} (h : Ps w c g at_ room) (k : Below w.heap.size w w') : Ps w' c g at_ room := h.kept (k.block _ h.lt)
theorem made16 {w : World} {c g at_ room : Nat} (h : Ps w c g at_ room) : Calls Tryz.prog 63 #[.pointer (some ⟨c, 0, none⟩)] w fun e w' => e = .returned (.bool true) ∧ w' = w := by
  have c0 := h.c0
  clear h
  go_enter Tryz.func63, Tryz.ntmps63
  go_wp2
  go_ret
  exact ⟨rfl, rfl⟩
def pz16 : List Value := [.pointer none, .int .i64 0, .int .i64 0, .int .i64 0]
theorem info_pl16 : (Tryz.prog.info? 126).map (fun i => (i.zero, i.size)) = some (some (.agg pz16.toArray), 4) := by kernel_rfl
theorem sz_pl16 : (Tryz.prog.info? 126).map (·.size) = some 4 := by kernel_rfl
theorem zero_pl16 (w : World) : (zeroValue 126).run Tryz.prog w = .ok (.agg pz16.toArray) w := by
  have h := info_pl16
  cases hq : Tryz.prog.info? 126 with
  | none => rw [hq] at h; simp at h
  | some i =>
    rw [hq] at h
    simp only [Option.map_some, Option.some.injEq, Prod.mk.injEq] at h
    simp [zeroValue, typeInfo, hq, h.1]
theorem plC_one (g which a room : Nat) : ∀ u ∈ plC g which a room, u.oneCell' = true := by
  intro u hu
  simp only [plC, List.mem_cons, List.not_mem_nil, or_false] at hu
  rcases hu with rfl | rfl | rfl | rfl <;> rfl
set_option maxRecDepth 100000 in
set_option maxHeartbeats 8000000 in
theorem place16 (w : World) (c g at_ room n : Nat) (h : Ps w c g at_ room) (hn : n ≤ 4611686018427387904) (ha : at_ ≤ 100000) (hr : room ≤ 100000) :
    Calls Tryz.prog 66 #[.pointer (some ⟨c, 0, none⟩), .int .i64 (n : Int)] w fun e w' => e = .returned (.agg #[.pointer (some ⟨g, 0, none⟩), .int .i64 ((n % 2 : Nat) : Int), .int .i64 ((slA at_ room (n % 2) : Nat) : Int), .int .i64 (room : Int)]) ∧ Below w.heap.size w w' := by
  have HP : Hid (Ps w c g at_ room) := h
  have hz := zero_pl16
  obtain ⟨r, hr1⟩ : ∃ r, n % 2 = r := ⟨_, rfl⟩
  obtain ⟨a, hA⟩ : ∃ a, slA at_ room r = a := ⟨_, rfl⟩
  obtain ⟨R1, hR1⟩ : ∃ R1, room + 1 = R1 := ⟨_, rfl⟩
  obtain ⟨Y, hY⟩ : ∃ Y, r * R1 = Y := ⟨_, rfl⟩
  have hYle : Y ≤ R1 := by
    rw [← hY]
    have : r = 0 ∨ r = 1 := by omega
    rcases this with q | q <;> subst q <;> omega
  have hAe : at_ + Y = a := by rw [← hY, ← hR1]; exact hA
  have t0 : (n : Int).tmod 2 = (r : Int) := by rw [Int.tmod_eq_emod_of_nonneg (by omega)]; omega
  have t1 : IntKind.i64.wrap (r : Int) = (r : Int) := by rw [IntKind.wrap_i64]; omega
  have y1 : IntKind.i64.wrap (1 + (room : Int)) = (R1 : Int) := by rw [IntKind.wrap_i64]; omega
  have y2 : IntKind.i64.wrap ((r : Int) * (R1 : Int)) = (Y : Int) := by
    rw [show (r : Int) * (R1 : Int) = (Y : Int) by rw [← hY]; exact (Int.natCast_mul _ _).symm, IntKind.wrap_i64]
    omega
  have y3 : IntKind.i64.wrap ((at_ : Int) + (Y : Int)) = (a : Int) := by rw [IntKind.wrap_i64]; omega
  rw [hr1, hA]
  clear h hn ha hr hr1 hA hR1 hY hYle hAe
  go_enter Tryz.func66, Tryz.ntmps66
  go_upto_region 1 with (refine alV rfl 126 pz16 hz rfl ?_; intro w2 hV2 hB2 hS2)
  go_upto_region 2 with fail
  have HLt : Hid (c < w.heap.size) := HP.out.lt
  have HPd : Hid (Ps w2.drew c g at_ room ∧ Vb w2.drew w.heap.size 126 pz16 ∧ Below w.heap.size w w2.drew) := ⟨(HP.out.later hB2).later (Below.refl _ _).drew, hV2, hB2.drew⟩
  refine wp_region_held_drew (S := fun W => Ps W c g at_ room) (by kernel_rfl) HPd.out.1 (fun HS => ?_)
  clear hV2 hB2 hS2 HP hz t0 t1
  generalize w2.drew = q0 at *
  refine wpAnyH_take (i := 0) (v := ?v1) rfl (by kernel_rfl) (by kernel_rfl) (by kernel_rfl) (fun _ _ _ h => h) (Or.inl ⟨by kernel_rfl, ?h1⟩) HS ?r1
  case h1 => (rintro w ⟨n0, n1, n2⟩; go_simp) <;> with_reducible rfl
  try simp only [Act.put, List.getElem_toArray, List.getElem_cons_succ, List.getElem_cons_zero, List.setIfInBounds_toArray, List.set_cons_zero, List.set_cons_succ]
  refine wpAnyH_take (i := 1) (v := ?v2) rfl (by kernel_rfl) (by kernel_rfl) (by kernel_rfl) (fun _ _ _ h => h) (Or.inl ⟨by kernel_rfl, ?h2⟩) HS ?r2
  case h2 => (rintro w ⟨n0, n1, n2⟩; go_simp) <;> with_reducible rfl
  try simp only [Act.put, List.getElem_toArray, List.getElem_cons_succ, List.getElem_cons_zero, List.setIfInBounds_toArray, List.set_cons_zero, List.set_cons_succ]
  refine wpAnyH_take (i := 2) (v := ?v3) rfl (by kernel_rfl) (by kernel_rfl) (by kernel_rfl) (fun _ _ _ h => h) (Or.inl ⟨by kernel_rfl, ?h3⟩) HS ?r3
  case h3 => (rintro w ⟨n0, n1, n2⟩; go_simp) <;> with_reducible rfl
  try simp only [Act.put, List.getElem_toArray, List.getElem_cons_succ, List.getElem_cons_zero, List.setIfInBounds_toArray, List.set_cons_zero, List.set_cons_succ]
  refine wpAnyH_take (i := 3) (v := ?v4) rfl (by kernel_rfl) (by kernel_rfl) (by kernel_rfl) (fun _ _ _ h => h) (Or.inl ⟨by kernel_rfl, ?h4⟩) HS ?r4
  case h4 => (rintro w ⟨n0, n1, n2⟩; go_simp) <;> with_reducible rfl
  try simp only [Act.put, List.getElem_toArray, List.getElem_cons_succ, List.getElem_cons_zero, List.setIfInBounds_toArray, List.set_cons_zero, List.set_cons_succ]
  refine wpAnyH_take (i := 4) (v := ?v5) rfl (by kernel_rfl) (by kernel_rfl) (by kernel_rfl) (fun _ _ _ h => h) (Or.inl ⟨by kernel_rfl, ?h5⟩) HS ?r5
  case h5 => (rintro w ⟨n0, n1, n2⟩; go_simp) <;> with_reducible rfl
  try simp only [Act.put, List.getElem_toArray, List.getElem_cons_succ, List.getElem_cons_zero, List.setIfInBounds_toArray, List.set_cons_zero, List.set_cons_succ]
  refine wpAnyH_take (i := 5) (v := ?v6) rfl (by kernel_rfl) (by kernel_rfl) (by kernel_rfl) (fun _ _ _ h => h) (Or.inl ⟨by kernel_rfl, ?h6⟩) HS ?r6
  case h6 => (rintro w ⟨n0, n1, n2⟩; go_simp) <;> with_reducible rfl
  try simp only [Act.put, List.getElem_toArray, List.getElem_cons_succ, List.getElem_cons_zero, List.setIfInBounds_toArray, List.set_cons_zero, List.set_cons_succ]
  refine wpAnyH_take (i := 6) (v := ?v7) rfl (by kernel_rfl) (by kernel_rfl) (by kernel_rfl) (fun _ _ _ h => h) (Or.inl ⟨by kernel_rfl, ?h7⟩) HS ?r7
  case h7 => (rintro w ⟨n0, n1, n2⟩; go_simp) <;> with_reducible rfl
  try simp only [Act.put, List.getElem_toArray, List.getElem_cons_succ, List.getElem_cons_zero, List.setIfInBounds_toArray, List.set_cons_zero, List.set_cons_succ]
  refine wpAnyH_take (i := 7) (v := ?v8) rfl (by kernel_rfl) (by kernel_rfl) (by kernel_rfl) (fun _ _ _ h => h) (Or.inl ⟨by kernel_rfl, ?h8⟩) HS ?r8
  case h8 => (rintro w ⟨n0, n1, n2⟩; go_simp) <;> with_reducible rfl
  try simp only [Act.put, List.getElem_toArray, List.getElem_cons_succ, List.getElem_cons_zero, List.setIfInBounds_toArray, List.set_cons_zero, List.set_cons_succ]
  refine wpAnyH_take (i := 8) (v := ?v9) rfl (by kernel_rfl) (by kernel_rfl) (by kernel_rfl) (fun _ _ _ h => h) (Or.inl ⟨by kernel_rfl, ?h9⟩) HS ?r9
  case h9 => (rintro w ⟨n0, n1, n2⟩; go_simp) <;> with_reducible rfl
  try simp only [Act.put, List.getElem_toArray, List.getElem_cons_succ, List.getElem_cons_zero, List.setIfInBounds_toArray, List.set_cons_zero, List.set_cons_succ]
  refine wpAnyH_take (i := 9) (v := ?v10) rfl (by kernel_rfl) (by kernel_rfl) (by kernel_rfl) (fun _ _ _ h => h) (Or.inl ⟨by kernel_rfl, ?h10⟩) HS ?r10
  case h10 => (rintro w ⟨n0, n1, n2⟩; go_simp) <;> with_reducible rfl
  try simp only [Act.put, List.getElem_toArray, List.getElem_cons_succ, List.getElem_cons_zero, List.setIfInBounds_toArray, List.set_cons_zero, List.set_cons_succ]
  refine wpAnyH_take (i := 10) (v := ?v11) rfl (by kernel_rfl) (by kernel_rfl) (by kernel_rfl) (fun _ _ _ h => h) (Or.inl ⟨by kernel_rfl, ?h11⟩) HS ?r11
  case h11 => (rintro w ⟨n0, n1, n2⟩; go_simp) <;> with_reducible rfl
  try simp only [Act.put, List.getElem_toArray, List.getElem_cons_succ, List.getElem_cons_zero, List.setIfInBounds_toArray, List.set_cons_zero, List.set_cons_succ]
  refine wpAnyH_take (i := 11) (v := ?v12) rfl (by kernel_rfl) (by kernel_rfl) (by kernel_rfl) (fun _ _ _ h => h) (Or.inl ⟨by kernel_rfl, ?h12⟩) HS ?r12
  case h12 => (rintro w ⟨n0, n1, n2⟩; go_simp) <;> with_reducible rfl
  try simp only [Act.put, List.getElem_toArray, List.getElem_cons_succ, List.getElem_cons_zero, List.setIfInBounds_toArray, List.set_cons_zero, List.set_cons_succ]
  refine wpAnyH_take (i := 12) (v := ?v13) rfl (by kernel_rfl) (by kernel_rfl) (by kernel_rfl) (fun _ _ _ h => h) (Or.inl ⟨by kernel_rfl, ?h13⟩) HS ?r13
  case h13 => (rintro w ⟨n0, n1, n2⟩; go_simp) <;> with_reducible rfl
  try simp only [Act.put, List.getElem_toArray, List.getElem_cons_succ, List.getElem_cons_zero, List.setIfInBounds_toArray, List.set_cons_zero, List.set_cons_succ]
  refine wpAnyH_take (i := 13) (v := ?v14) rfl (by kernel_rfl) (by kernel_rfl) (by kernel_rfl) (fun _ _ _ h => h) (Or.inl ⟨by kernel_rfl, ?h14⟩) HS ?r14
  case h14 => (rintro w ⟨n0, n1, n2⟩; go_simp) <;> with_reducible rfl
  try simp only [Act.put, List.getElem_toArray, List.getElem_cons_succ, List.getElem_cons_zero, List.setIfInBounds_toArray, List.set_cons_zero, List.set_cons_succ]
  refine wpAnyH_take (i := 14) (v := ?v15) rfl (by kernel_rfl) (by kernel_rfl) (by kernel_rfl) (fun _ _ _ h => h) (Or.inl ⟨by kernel_rfl, ?h15⟩) HS ?r15
  case h15 => (rintro w ⟨n0, n1, n2⟩; go_simp) <;> with_reducible rfl
  try simp only [Act.put, List.getElem_toArray, List.getElem_cons_succ, List.getElem_cons_zero, List.setIfInBounds_toArray, List.set_cons_zero, List.set_cons_succ]
  refine wpAnyH_take (i := 15) (v := ?v16) rfl (by kernel_rfl) (by kernel_rfl) (by kernel_rfl) (fun _ _ _ h => h) (Or.inl ⟨by kernel_rfl, ?h16⟩) HS ?r16
  case h16 => (rintro w ⟨n0, n1, n2⟩; go_simp) <;> with_reducible rfl
  try simp only [Act.put, List.getElem_toArray, List.getElem_cons_succ, List.getElem_cons_zero, List.setIfInBounds_toArray, List.set_cons_zero, List.set_cons_succ]
  refine wpAnyH_take (i := 16) (v := ?v17) rfl (by kernel_rfl) (by kernel_rfl) (by kernel_rfl) (fun _ _ _ h => h) (Or.inl ⟨by kernel_rfl, ?h17⟩) HS ?r17
  case h17 => (rintro w ⟨n0, n1, n2⟩; go_simp) <;> with_reducible rfl
  try simp only [Act.put, List.getElem_toArray, List.getElem_cons_succ, List.getElem_cons_zero, List.setIfInBounds_toArray, List.set_cons_zero, List.set_cons_succ]
  refine wpAnyH_take (i := 17) (v := ?v18) rfl (by kernel_rfl) (by kernel_rfl) (by kernel_rfl) (fun _ _ _ h => h) (Or.inl ⟨by kernel_rfl, ?h18⟩) HS ?r18
  case h18 => (rintro w ⟨n0, n1, n2⟩; go_simp) <;> with_reducible rfl
  try simp only [Act.put, List.getElem_toArray, List.getElem_cons_succ, List.getElem_cons_zero, List.setIfInBounds_toArray, List.set_cons_zero, List.set_cons_succ]
  refine wpAnyH_take (i := 18) (v := ?v19) rfl (by kernel_rfl) (by kernel_rfl) (by kernel_rfl) (fun _ _ _ h => h) (Or.inl ⟨by kernel_rfl, ?h19⟩) HS ?r19
  case h19 => (rintro w ⟨n0, n1, n2⟩; go_simp) <;> with_reducible rfl
  try simp only [Act.put, List.getElem_toArray, List.getElem_cons_succ, List.getElem_cons_zero, List.setIfInBounds_toArray, List.set_cons_zero, List.set_cons_succ]
  refine wpAnyH_take (i := 19) (v := ?v20) rfl (by kernel_rfl) (by kernel_rfl) (by kernel_rfl) (fun _ _ _ h => h) (Or.inl ⟨by kernel_rfl, ?h20⟩) HS ?r20
  case h20 => (rintro w ⟨n0, n1, n2⟩; go_simp) <;> with_reducible rfl
  try simp only [Act.put, List.getElem_toArray, List.getElem_cons_succ, List.getElem_cons_zero, List.setIfInBounds_toArray, List.set_cons_zero, List.set_cons_succ]
  refine wpAnyH_take (i := 20) (v := ?v21) rfl (by kernel_rfl) (by kernel_rfl) (by kernel_rfl) (fun _ _ _ h => h) (Or.inl ⟨by kernel_rfl, ?h21⟩) HS ?r21
  case h21 => (rintro w ⟨n0, n1, n2⟩; go_simp) <;> with_reducible rfl
  try simp only [Act.put, List.getElem_toArray, List.getElem_cons_succ, List.getElem_cons_zero, List.setIfInBounds_toArray, List.set_cons_zero, List.set_cons_succ]
  refine wpAnyH_take (i := 21) (v := ?v22) rfl (by kernel_rfl) (by kernel_rfl) (by kernel_rfl) (fun _ _ _ h => h) (Or.inl ⟨by kernel_rfl, ?h22⟩) HS ?r22
  case h22 => (rintro w ⟨n0, n1, n2⟩; go_simp) <;> with_reducible rfl
  try simp only [Act.put, List.getElem_toArray, List.getElem_cons_succ, List.getElem_cons_zero, List.setIfInBounds_toArray, List.set_cons_zero, List.set_cons_succ]
  refine wpAnyH_ready (rs := [22]) (by kernel_rfl) (by simp) ?_
  refine AllReadyH.cons rfl (fun K hK => ?_) AllReadyH.nil
  refine stS rfl 126 _ _ rfl w.heap.size pz16 (plC g r a room) rfl rfl HPd.out.2.1 rfl sz_pl16 (plC_one _ _ _ _) ?_
  intro q1 hV3 hK3 hS3
  have HF : Hid (Vb q1 w.heap.size 126 (plC g r a room) ∧ Below w.heap.size w q1) := ⟨hV3, hK3.next HPd.out.2.2 (fun i hi => by omega) HPd.out.2.2.size⟩
  refine hK.out _ _ (HPd.out.1.kept (hK3.block _ HPd.out.1.lt (fun e => ?_))) (fun HS => ?_)
  · have := HLt.out; omega
  clear hK K hV3 hK3 hS3 HPd HS
  try simp only [Act.put, List.getElem_toArray, List.getElem_cons_succ, List.getElem_cons_zero, List.setIfInBounds_toArray, List.set_cons_zero, List.set_cons_succ]
  refine wpAnyH_done (by kernel_rfl) ?_ _
  go_wp2_with fail
  have c0 := HF.out.1.cell 0 _ rfl
  have c1 := HF.out.1.cell 1 _ rfl
  have c2 := HF.out.1.cell 2 _ rfl
  have c3 := HF.out.1.cell 3 _ rfl
  exact bodyPost_ret (v := .agg #[.pointer (some ⟨g, 0, none⟩), .int .i64 (r : Int), .int .i64 (a : Int), .int .i64 (room : Int)]) (by simp [results, Tryz.results66, go_sem, c0, c1, c2, c3]) rfl ⟨rfl, HF.out.2⟩
end Go.Proofs.YthnpdcblfocemaaGreatDoor
set_option linter.unusedVariables false
set_option linter.unusedSimpArgs false
namespace Go.Proofs.YthnpdcblfocemaaGreatDoor
open Go.RowKit

def stp16 (L x : List Nat × Nat) : List Nat × Nat := if L.2 < x.2 then x else L
def lsJ (B : Nat → List Nat) (at_ room : Nat) : Nat → List Nat × Nat
  | 0 => ([], 0)
  | j + 1 => stp16 (lsJ B at_ room j) (slt B at_ room j)
def lsW (s : Dsk) (at_ room : Nat) : List Nat × Nat × Nat := if s.dn = true then ([], 0, 150) else ((lsJ (rb s) at_ room 2).1, (lsJ (rb s) at_ room 2).2, 0)
theorem slt_par (B : Nat → List Nat) (at_ room which : Nat) : slt B at_ room which = ([], 0) ∨ (1 ≤ (slt B at_ room which).2 ∧ (slt B at_ room which).2 % 2 = which) := by
  unfold slt
  split
  · rename_i h
    split
    · exact Or.inr ⟨h.2.1, h.2.2.2.1⟩
    · exact Or.inl rfl
  · exact Or.inl rfl
theorem ldW_ls (s : Dsk) (at_ room : Nat) : ldW s at_ room = if (lsW s at_ room).2.2 ≠ 0 then ([], 0, (lsW s at_ room).2.2) else if (lsW s at_ room).2.1 = 0 then ([], 0, 160) else ((lsW s at_ room).1, (lsW s at_ room).2.1, 0) := by
  unfold ldW lsW
  by_cases hd : s.dn = true
  · rw [if_pos hd, if_pos hd, if_pos (by simp)]
  · rw [if_neg hd, if_neg hd, if_neg (by simp)]
    have h0 := slt_par (rb s) at_ room 0
    have h1 := slt_par (rb s) at_ room 1
    show ldV (rb s) at_ room = _
    unfold ldV lsJ lsJ lsJ stp16
    generalize slt (rb s) at_ room 0 = X at *
    generalize slt (rb s) at_ room 1 = Y at *
    obtain ⟨xl, n⟩ := X
    obtain ⟨yl, m⟩ := Y
    dsimp only at h0 h1 ⊢
    rcases h0 with h0 | ⟨h0, p0⟩
    · obtain ⟨rfl, rfl⟩ := Prod.mk.inj h0
      rcases h1 with h1 | ⟨h1, p1⟩
      · obtain ⟨rfl, rfl⟩ := Prod.mk.inj h1
        simp
      · have e1 : ¬ m = 0 := by omega
        have e2 : 0 < m := by omega
        simp [e1, e2]
    · have e1 : ¬ n = 0 := by omega
      have e2 : 0 < n := by omega
      rcases h1 with h1 | ⟨h1, p1⟩
      · obtain ⟨rfl, rfl⟩ := Prod.mk.inj h1
        simp [e1, e2]
      · by_cases q : m < n
        · have q2 : ¬ n < m := by omega
          simp [e1, e2, q, q2]
        · have q2 : n < m := by omega
          have e3 : ¬ m = 0 := by omega
          simp [e1, e2, e3, q, q2]
theorem held16 (V : Disk1) (w : World) (g : Nat) (F : Nat → Prop) (s : Dsk) (at_ which a room : Nat) (hA : slA at_ room which = a) (hD : V.Dt w (.pointer (some ⟨g, 0, none⟩)) F s) (hT : TbAt w) (hw : which < 2) (hr : a + 1 + room ≤ s.bl.length) (hbl : s.bl.length ≤ 1000) (hrm : room ≤ 500) :
    Calls Tryz.prog 83 #[.agg #[.pointer (some ⟨g, 0, none⟩), .int .i64 (which : Int), .int .i64 (a : Int), .int .i64 (room : Int)]] w (HdR w (if s.dn = true then 0 else (slt (rb s) at_ room which).2) (if s.dn = true then 150 else 0) (if s.dn = true then [] else (slt (rb s) at_ room which).1)) := by
  by_cases hd : s.dn = true
  · rw [if_pos hd, if_pos hd, if_pos hd]
    exact heldD16 V w g F s which a room hD hT hd
  · rw [if_neg hd, if_neg hd, if_neg hd]
    exact heldU16 V w g F s at_ which a room hA hD hT (by simpa using hd) hw hr hbl hrm
theorem ldTx {ops : Array Oper} {rest : List Oper} {o : Oper} {a : Act} {w : World} {Q : Exit → Act → World → Prop} (hgd : o.guard = none) (x : Operand) (ho : o.op = .load 128 x)
    (g : Nat) (xs : List Value) (hx : a.eval x = .pointer (some ⟨g, 0, none⟩)) (hr : Vb w g 128 xs) (hb : xs.length = 6)
    (h : wpList Tryz.prog ops Q rest (a.put o.dst (.agg xs.toArray)) w) : wpList Tryz.prog ops Q (o :: rest) a w := by
  have hu : (match Tryz.prog.underlying 128 with | some (.struct _) => true | _ => false) = true := by kernel_rfl
  cases hq : Tryz.prog.underlying 128 with
  | none => rw [hq] at hu; cases hu
  | some d =>
    rw [hq] at hu
    cases d <;> try (cases hu; done)
    case struct fs => exact wpList_load_mid hgd 128 x ho g 0 hx xs _ hr.all hq rfl (by rw [hb]; exact sz_tx16) h
structure Lt16 (w : World) (B B4 : Nat) (L : List Nat × Nat) (X : World) : Prop where
  v : ∃ (q0 : Option Addr) (q1 q2 q3 : Int) (ad : Option Addr) (n cp : Nat), Vb X B4 128 (txC q0 q1 q2 q3 (L.2 : Int) (.slice ad n cp)) ∧ Bs X (.slice ad n cp) L.1 ∧ Ow (B4 + 1) (.slice ad n cp)
  r : Vb X B 128 tz16
  k : Below w.heap.size w X
theorem Lt16.later {w : World} {B B4 : Nat} {L : List Nat × Nat} {X X' : World} (H : Lt16 w B B4 L X) (k : Below X.heap.size X X') : Lt16 w B B4 L X' := by
  obtain ⟨⟨q0, q1, q2, q3, ad, n, cp, h1, h2, h3⟩, r, k'⟩ := H
  exact ⟨⟨q0, q1, q2, q3, ad, n, cp, h1.later k, h2.later k, h3⟩, r.later k, bchain k' k⟩
set_option maxRecDepth 100000 in
set_option maxHeartbeats 8000000 in
theorem last16 (V : Disk1) (w : World) (c g : Nat) (F : Nat → Prop) (s : Dsk) (at_ room : Nat) (hS : Ps w c g at_ room) (hD : V.Dt w (.pointer (some ⟨g, 0, none⟩)) F s) (hT : TbAt w) (hr : at_ + 2 * (room + 1) ≤ s.bl.length) (hbl : s.bl.length ≤ 1000) :
    Calls Tryz.prog 64 #[.pointer (some ⟨c, 0, none⟩)] w (HdR w (lsW s at_ room).2.1 (lsW s at_ room).2.2 (lsW s at_ room).1) := by
  have hz := zero_tx16
  have HW : Hid (Ps w c g at_ room ∧ V.Dt w (.pointer (some ⟨g, 0, none⟩)) F s ∧ TbAt w) := ⟨hS, hD, hT⟩
  have HN : Hid (at_ + 2 * (room + 1) ≤ s.bl.length ∧ s.bl.length ≤ 1000) := ⟨hr, hbl⟩
  obtain ⟨B, hB⟩ : ∃ B, w.heap.size = B := ⟨_, rfl⟩
  have HB : Hid (w.heap.size = B) := hB
  clear hS hD hT hr hbl
  go_enter Tryz.func64, Tryz.ntmps64
  go_upto_region 1 with (refine alV rfl 128 tz16 hz rfl ?_; intro w2 hV2 hB2 hS2)
  go_upto_region 2 with (first
    | (refine bdT0 rfl rfl ?_)
    | (refine alV rfl 128 tz16 hz rfl ?_; intro w3 hV3 hB3 hS3)
    | (refine stV rfl 128 _ _ rfl w2.heap.size tz16 tz16 rfl rfl hV3 rfl sz_tx16 (txC_one _ _ _ _ _ _ _ _) ?_; intro w4 hV4 hK4 hS4))
  obtain ⟨B4, hB4⟩ : ∃ B4, w2.heap.size = B4 := ⟨_, rfl⟩
  have HB4 : Hid (B4 = B + 1) := by show _ = _; omega
  have hb4 : Below w2.heap.size w2 w4 := hK4.next hB3 (fun i hi => by omega) hB3.size
  have H0 : Hid (Lt16 w B B4 ([], 0) w4) := by
    refine ⟨⟨none, 0, 0, 0, none, 0, 0, by rw [← hB4]; exact hV4, bs_nilS _, ow_nilS _⟩, ?_, bchain hB2 hb4⟩
    rw [← hB]
    exact hV2.later hb4
  try rw [hB]
  rw [hB4]
  clear hB hV2 hB2 hS2 hV3 hB3 hS3 hV4 hK4 hS4 hB4 hb4
  go_upto_region 3 with fail
  go_loopw [9] (fun s9 wr => ∃ j : Nat, j ≤ 2 ∧ s9 = .int .i64 (j : Int) ∧ Hid (Lt16 w B B4 (lsJ (rb s) at_ room j) wr) ∧ Hid (j = 0 ∨ s.dn = false)) (fun s9 _ => 2 - (intOf s9).toNat)
  case atStart => exact ⟨0, by omega, rfl, H0.out, Or.inl rfl⟩
  case round =>
    obtain ⟨j, hj, rfl, HL, HJ⟩ := hrel
    clear H0
    by_cases hlt : j < 2
    · have hjI : (j : Int) < 2 := by omega
      have C1 := place16 wr c g at_ room j (HW.out.1.later (HL.out.k)) (by omega) (by have := HN.out; omega) (by have := HN.out; omega)
      rw [Nat.mod_eq_of_lt hlt] at C1
      go_wp2_with fail
      refine C1.mono ?_
      rintro e w5 ⟨rfl, hB5⟩
      have HL5 : Hid (Lt16 w B B4 (lsJ (rb s) at_ room j) w5) := HL.out.later hB5
      clear hB5 C1 HL
      go_wp2_with fail
      refine (held16 V w5 g F s at_ j (slA at_ room j) room rfl (V.dtK HW.out.2.1 (fun i hi => HL5.out.k.block i (V.dtB HW.out.2.1 i hi)) HL5.out.k.size) (HW.out.2.2.later HL5.out.k) hlt (by have := slA_lt (i := room) hlt HN.out.1 (Nat.le_refl _); omega) HN.out.2 (by have := HN.out; omega)).mono ?_
      rintro e w6 ⟨q0, q1, q2, q3, v, rfl, hLv, hOv, hB6⟩
      obtain ⟨ad, cp, rfl, -, -⟩ := hLv.len
      obtain ⟨m, hm⟩ : ∃ m, (if s.dn = true then ([] : List Nat) else (slt (rb s) at_ room j).1).length = m := ⟨_, rfl⟩
      rw [hm] at hLv hOv ⊢
      have HL6 : Hid (Lt16 w B B4 (lsJ (rb s) at_ room j) w6) := HL5.out.later hB6
      have hlt4 : B4 < w5.heap.size := by obtain ⟨_, _, _, _, _, _, _, h1, _⟩ := HL5.out.v; exact h1.lt
      have HV6 : Hid (Bs w6 (.slice ad m cp) (if s.dn = true then [] else (slt (rb s) at_ room j).1) ∧ Ow (B4 + 1) (.slice ad m cp)) := ⟨hLv, fun a' n' c' e' hn' => by have := hOv a' n' c' e' hn'; omega⟩
      clear hLv hOv hB6 HL5 hm hlt4
      by_cases hd : s.dn = true
      · rw [if_pos hd, if_pos hd]
        have HR : Hid (lsW s at_ room = ([], 0, 150)) := by show _ = _; unfold lsW; rw [if_pos hd]
        clear hd
        go_wp2_with (first
          | (refine bdT0 rfl rfl ?_)
          | (refine alV rfl 128 tz16 hz rfl ?_; intro w7 hV7 hB7 hS7)
          | (refine stV rfl 128 _ _ rfl w6.heap.size tz16 (txC q0 q1 q2 q3 ((0 : Nat) : Int) (.slice ad m cp)) rfl rfl hV7 rfl sz_tx16 (txC_one _ _ _ _ _ _ _ _) ?_; intro w8 hV8 hK8 hS8; have hb8 : Below w6.heap.size w6 w8 := hK8.next hB7 (fun i hi => by omega) hB7.size; have HL8 : Hid (Lt16 w B B4 (lsJ (rb s) at_ room j) w8) := HL6.out.later hb8; clear hV7 hB7 hS7 hV8 hK8 hS8 hb8)
          | (refine stV rfl 128 _ _ rfl B tz16 tz16 rfl rfl HL8.out.r rfl sz_tx16 (txC_one _ _ _ _ _ _ _ _) ?_; intro w9 hV9 hK9 hS9))
        have c0 := hV9.cell 0 _ rfl
        have c1 := hV9.cell 1 _ rfl
        have c2 := hV9.cell 2 _ rfl
        have c3 := hV9.cell 3 _ rfl
        have c4 := hV9.cell 4 _ rfl
        have c5 := hV9.cell 5 _ rfl
        rw [HR.out]
        exact bodyPost_ret (v := .tuple #[.agg #[.pointer none, .int .i64 0, .int .i64 0, .int .i64 0, .int .i64 0, .slice none 0 0], .int .i64 150]) (by simp [results, Tryz.results64, go_sem, c0, c1, c2, c3, c4, c5]) rfl ⟨none, 0, 0, 0, .slice none 0 0, rfl, bs_nilS _, ow_nilS _, hK9.next HL8.out.k (fun i hi => by have := HB.out; omega) HL8.out.k.size⟩
      · rw [if_neg hd, if_neg hd]
        rw [if_neg hd] at HV6
        obtain ⟨N, hN⟩ : ∃ N, (slt (rb s) at_ room j).2 = N := ⟨_, rfl⟩
        obtain ⟨M, hM⟩ : ∃ M, (lsJ (rb s) at_ room j).2 = M := ⟨_, rfl⟩
        have HNM : Hid ((slt (rb s) at_ room j).2 = N ∧ (lsJ (rb s) at_ room j).2 = M) := ⟨hN, hM⟩
        rw [hN]
        have HDf : Hid (s.dn = false) := by show s.dn = false; simpa using hd
        clear hN hM hd
        go_upto_region 6 with (first
          | (refine alV rfl 128 tz16 hz rfl ?_; intro w7 hV7 hB7 hS7)
          | (refine stV rfl 128 _ _ rfl w6.heap.size tz16 (txC q0 q1 q2 q3 (N : Int) (.slice ad m cp)) rfl rfl hV7 rfl sz_tx16 (txC_one _ _ _ _ _ _ _ _) ?_; intro w8 hV8 hK8 hS8))
        have hb8 : Below w6.heap.size w6 w8 := hK8.next hB7 (fun i hi => by omega) hB7.size
        have HL8 : Hid (Lt16 w B B4 (lsJ (rb s) at_ room j) w8) := HL6.out.later hb8
        have HV8 : Hid (Bs w8 (.slice ad m cp) (slt (rb s) at_ room j).1 ∧ Ow (B4 + 1) (.slice ad m cp)) := ⟨HV6.out.1.later hb8, HV6.out.2⟩
        obtain ⟨B6, hB6⟩ : ∃ B6, w6.heap.size = B6 := ⟨_, rfl⟩
        have hlt6 : B4 < B6 := by obtain ⟨_, _, _, _, _, _, _, h1, _⟩ := HL6.out.v; rw [← hB6]; exact h1.lt
        rw [hB6] at hV8 ⊢
        have HV : Hid (Vb w8 B6 128 (txC q0 q1 q2 q3 (N : Int) (.slice ad m cp))) := hV8
        obtain ⟨p0, p1, p2, p3, ap, np, cpp, hVp, hLp, hOp⟩ := HL8.out.v
        rw [HNM.out.2] at hVp
        have HP : Hid (Vb w8 B4 128 (txC p0 p1 p2 p3 (M : Int) (.slice ap np cpp))) := hVp
        have z6 := hV8.cell 4 _ rfl
        have z4 := hVp.cell 4 _ rfl
        clear hV7 hB7 hS7 hV8 hK8 hS8 hb8 hB6 HL6 HV6 hVp hLp hOp
        by_cases q : M < N
        · have qI : (M : Int) < (N : Int) := by omega
          have HS : Hid (lsJ (rb s) at_ room (j + 1) = slt (rb s) at_ room j) := by
            show stp16 (lsJ (rb s) at_ room j) (slt (rb s) at_ room j) = _
            unfold stp16
            rw [HNM.out.1, HNM.out.2, if_pos q]
          go_upto_region 10 with (first
            | (refine ldTx rfl _ rfl B6 (txC q0 q1 q2 q3 (N : Int) (.slice ad m cp)) rfl HV.out rfl ?_)
            | (refine stV rfl 128 _ _ rfl B4 (txC p0 p1 p2 p3 (M : Int) (.slice ap np cpp)) (txC q0 q1 q2 q3 (N : Int) (.slice ad m cp)) rfl rfl HP.out rfl sz_tx16 (txC_one _ _ _ _ _ _ _ _) ?_; intro w9 hV9 hK9 hS9))
          have HL9 : Hid (Lt16 w B B4 (lsJ (rb s) at_ room (j + 1)) w9) := by
            rw [HS.out]
            refine ⟨⟨q0, q1, q2, q3, ad, m, cp, by rw [HNM.out.1]; exact hV9, hK9.bs HV8.out.1 (ow_nf HV8.out.2 (fun i hi => by omega)), HV8.out.2⟩, HL8.out.r.kept (hK9.block _ HL8.out.r.lt (by have := HB4.out; omega)), hK9.next HL8.out.k (fun i hi => by have := HB4.out; have := HB.out; omega) HL8.out.k.size⟩
          clear hV9 hK9 hS9 z6 z4 HV HP HL8 HV8 HS
          have hjw : IntKind.i64.wrap ((j : Int) + 1) = ((j + 1 : Nat) : Int) := by rw [IntKind.wrap_i64]; omega
          go_wp2_with fail
          go_roundw
          case rel => exact ⟨j + 1, by omega, by go_num, HL9.out, Or.inr HDf.out⟩
          case measure => simp only [intOf]; omega
        · have qI : ¬ (M : Int) < (N : Int) := by omega
          have HS : Hid (lsJ (rb s) at_ room (j + 1) = lsJ (rb s) at_ room j) := by
            show stp16 (lsJ (rb s) at_ room j) (slt (rb s) at_ room j) = _
            unfold stp16
            rw [HNM.out.1, HNM.out.2, if_neg q]
          have HL9 : Hid (Lt16 w B B4 (lsJ (rb s) at_ room (j + 1)) w8) := by rw [HS.out]; exact HL8.out
          clear HV HP HL8 HV8 HS
          have hjw : IntKind.i64.wrap ((j : Int) + 1) = ((j + 1 : Nat) : Int) := by rw [IntKind.wrap_i64]; omega
          go_wp2_with fail
          go_roundw
          case rel => exact ⟨j + 1, by omega, by go_num, HL9.out, Or.inr HDf.out⟩
          case measure => simp only [intOf]; omega
    · obtain rfl : j = 2 := by omega
      have HR : Hid (lsW s at_ room = ((lsJ (rb s) at_ room 2).1, (lsJ (rb s) at_ room 2).2, 0)) := by
        show _ = _
        have hd : s.dn = false := by
          rcases HJ.out with q | q
          · omega
          · exact q
        unfold lsW
        rw [if_neg (by rw [hd]; simp)]
      obtain ⟨p0, p1, p2, p3, ap, np, cpp, hVp, hLp, hOp⟩ := HL.out.v
      obtain ⟨M, hM⟩ : ∃ M, (lsJ (rb s) at_ room 2).2 = M := ⟨_, rfl⟩
      rw [hM] at hVp HR
      have HP : Hid (Vb wr B4 128 (txC p0 p1 p2 p3 (M : Int) (.slice ap np cpp)) ∧ Bs wr (.slice ap np cpp) (lsJ (rb s) at_ room 2).1 ∧ Ow (B4 + 1) (.slice ap np cpp)) := ⟨hVp, hLp, hOp⟩
      have h22 : ¬ (2 : Int) < 2 := by omega
      clear hVp hLp hOp hlt hM
      go_wp2_with (first
        | (refine ldTx rfl _ rfl B4 (txC p0 p1 p2 p3 (M : Int) (.slice ap np cpp)) rfl HP.out.1 rfl ?_)
        | (refine stV rfl 128 _ _ rfl B tz16 (txC p0 p1 p2 p3 (M : Int) (.slice ap np cpp)) rfl rfl HL.out.r rfl sz_tx16 (txC_one _ _ _ _ _ _ _ _) ?_; intro w9 hV9 hK9 hS9))
      have c0 := hV9.cell 0 _ rfl
      have c1 := hV9.cell 1 _ rfl
      have c2 := hV9.cell 2 _ rfl
      have c3 := hV9.cell 3 _ rfl
      have c4 := hV9.cell 4 _ rfl
      have c5 := hV9.cell 5 _ rfl
      rw [HR.out]
      exact bodyPost_ret (v := .tuple #[.agg #[.pointer p0, .int .i64 p1, .int .i64 p2, .int .i64 p3, .int .i64 (M : Int), .slice ap np cpp], .int .i64 0]) (by simp [results, Tryz.results64, go_sem, c0, c1, c2, c3, c4, c5]) rfl ⟨p0, p1, p2, p3, .slice ap np cpp, rfl, hK9.bs HP.out.2.1 (ow_nf HP.out.2.2 (fun i hi => by have := HB4.out; omega)), fun a' n' c' e' hn' => by have := HP.out.2.2 a' n' c' e' hn'; have := HB4.out; have := HB.out; omega, hK9.next HL.out.k (fun i hi => by have := HB.out; omega) HL.out.k.size⟩
end Go.Proofs.YthnpdcblfocemaaGreatDoor
