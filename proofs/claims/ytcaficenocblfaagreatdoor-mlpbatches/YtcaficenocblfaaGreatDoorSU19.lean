/-
  Texts of this proof, joined: NWalkL NWalkM NWalkN.
-/
import Derived.Test.YtcaficenocblfaaGreatDoorSU17
import Derived.Test.YtcaficenocblfaaGreatDoorSU18
set_option linter.unusedVariables false
set_option linter.unusedSimpArgs false
namespace Go.Proofs.YtcaficenocblfaaGreatDoor
open Go.RowKit

def mfB (z0 zl lx lt : Nat) : Bool := decide (lx ≠ z0) || decide (lt ≠ zl)
set_option maxRecDepth 100000 in
set_option maxHeartbeats 4000000 in
theorem misfit1_any (bs os m cas bb z0 zl lx lt : Nat) (adx adt : Option Addr) (cax cat : Nat) (hm : 1 ≤ m) (hm2 : m ≤ 6) (w : World) (hb : w.cell? ⟨bb, 0, none⟩ = some (.slice (some ⟨bs, os, none⟩) m cas)) (h0 : w.cell? ⟨bs, os, none⟩ = some (.int .i64 (z0 : Int))) (hl : w.cell? ⟨bs, os + (m - 1), none⟩ = some (.int .i64 (zl : Int))) :
    Calls Tryz.prog 54 #[.agg #[.slice adx lx cax, .slice adt lt cat], .pointer (some ⟨bb, 0, none⟩)] w fun e w' => e = .returned (.bool (mfB z0 zl lx lt)) ∧ Below w.heap.size w w' := by
  obtain ⟨w1, hw1⟩ : ∃ w1, w1 = w.alloc (.cells #[.slice adx lx cax, .slice adt lt cat] 42) := ⟨_, rfl⟩
  have hb1 : Below w.heap.size w w1 := by rw [hw1]; exact bel1 _ _
  have hbD : Below w.heap.size w w1.drew := hb1.drew
  have HX : B2 w.heap.size (.slice adx lx cax) (.slice adt lt cat) w1.drew := by rw [hw1]; exact (B2.new w _ _ _).later (Below.refl _ _).drew
  have x0 := HX.c0
  have x1 := HX.c1
  have y0 := cell_later hbD hb
  have y1 := cell_later hbD h0
  have y2 := cell_later hbD hl
  have HW : Hid (Below w.heap.size w w1.drew) := hbD
  have hmI : (0 : Int) < (m : Int) := by omega
  have hmN : 0 < m := by omega
  obtain ⟨n, hn⟩ : ∃ n, m - 1 = n := ⟨_, rfl⟩
  rw [hn] at y2
  have wm : IntKind.i64.wrap ((m : Int) - 1) = (n : Int) := by rw [IntKind.wrap_i64]; omega
  have hnI : (n : Int) < (m : Int) := by omega
  clear HX hb1 hbD hb h0 hl hn
  go_enter Tryz.func54, Tryz.ntmps54
  go_upto_region 1 with fail
  rw [← hw1]
  clear hw1
  by_cases hx : lx = z0
  · have hxI : (lx : Int) = (z0 : Int) := by omega
    refine wp_region_held_drew (S := fun W' => W'.cell? ⟨w.heap.size, 0, none⟩ = some (.slice adx lx cax) ∧ W'.cell? ⟨w.heap.size, 1, none⟩ = some (.slice adt lt cat) ∧ W'.cell? ⟨bb, 0, none⟩ = some (.slice (some ⟨bs, os, none⟩) m cas) ∧ W'.cell? ⟨bs, os, none⟩ = some (.int .i64 (z0 : Int)) ∧ W'.cell? ⟨bs, os + n, none⟩ = some (.int .i64 (zl : Int))) (by kernel_rfl) ⟨x0, x1, y0, y1, y2⟩ (fun HS => ?_)
    generalize w1.drew = wd at *
    subst hx
    refine wpAnyH_take (i := 0) (v := ?v1) rfl (by kernel_rfl) (by kernel_rfl) (by kernel_rfl) (fun _ _ _ h => h) (Or.inl ⟨by kernel_rfl, ?h1⟩) HS ?r1
    case h1 => (rintro w ⟨e0, e1, e2, e3, e4⟩; go_simp) <;> with_reducible rfl
    try simp only [Act.put, List.getElem_toArray, List.getElem_cons_succ, List.getElem_cons_zero, List.setIfInBounds_toArray, List.set_cons_zero, List.set_cons_succ]
    refine wpAnyH_take (i := 1) (v := ?v2) rfl (by kernel_rfl) (by kernel_rfl) (by kernel_rfl) (fun _ _ _ h => h) (Or.inl ⟨by kernel_rfl, ?h2⟩) HS ?r2
    case h2 => (rintro w ⟨e0, e1, e2, e3, e4⟩; go_simp) <;> with_reducible rfl
    try simp only [Act.put, List.getElem_toArray, List.getElem_cons_succ, List.getElem_cons_zero, List.setIfInBounds_toArray, List.set_cons_zero, List.set_cons_succ]
    refine wpAnyH_take (i := 2) (v := ?v3) rfl (by kernel_rfl) (by kernel_rfl) (by kernel_rfl) (fun _ _ _ h => h) (Or.inl ⟨by kernel_rfl, ?h3⟩) HS ?r3
    case h3 => (rintro w ⟨e0, e1, e2, e3, e4⟩; go_simp) <;> with_reducible rfl
    try simp only [Act.put, List.getElem_toArray, List.getElem_cons_succ, List.getElem_cons_zero, List.setIfInBounds_toArray, List.set_cons_zero, List.set_cons_succ]
    refine wpAnyH_take (i := 3) (v := ?v4) rfl (by kernel_rfl) (by kernel_rfl) (by kernel_rfl) (fun _ _ _ h => h) (Or.inl ⟨by kernel_rfl, ?h4⟩) HS ?r4
    case h4 => (rintro w ⟨e0, e1, e2, e3, e4⟩; go_simp) <;> with_reducible rfl
    try simp only [Act.put, List.getElem_toArray, List.getElem_cons_succ, List.getElem_cons_zero, List.setIfInBounds_toArray, List.set_cons_zero, List.set_cons_succ]
    refine wpAnyH_take (i := 4) (v := ?v5) rfl (by kernel_rfl) (by kernel_rfl) (by kernel_rfl) (fun _ _ _ h => h) (Or.inl ⟨by kernel_rfl, ?h5⟩) HS ?r5
    case h5 => (rintro w ⟨e0, e1, e2, e3, e4⟩; go_simp) <;> with_reducible rfl
    try simp only [Act.put, List.getElem_toArray, List.getElem_cons_succ, List.getElem_cons_zero, List.setIfInBounds_toArray, List.set_cons_zero, List.set_cons_succ]
    refine wpAnyH_take (i := 5) (v := ?v6) rfl (by kernel_rfl) (by kernel_rfl) (by kernel_rfl) (fun _ _ _ h => h) (Or.inl ⟨by kernel_rfl, ?h6⟩) HS ?r6
    case h6 => (rintro w ⟨e0, e1, e2, e3, e4⟩; go_simp) <;> with_reducible rfl
    try simp only [Act.put, List.getElem_toArray, List.getElem_cons_succ, List.getElem_cons_zero, List.setIfInBounds_toArray, List.set_cons_zero, List.set_cons_succ]
    refine wpAnyH_take (i := 6) (v := ?v7) rfl (by kernel_rfl) (by kernel_rfl) (by kernel_rfl) (fun _ _ _ h => h) (Or.inl ⟨by kernel_rfl, ?h7⟩) HS ?r7
    case h7 => (rintro w ⟨e0, e1, e2, e3, e4⟩; go_simp) <;> with_reducible rfl
    try simp only [Act.put, List.getElem_toArray, List.getElem_cons_succ, List.getElem_cons_zero, List.setIfInBounds_toArray, List.set_cons_zero, List.set_cons_succ]
    refine wpAnyH_take (i := 7) (v := ?v8) rfl (by kernel_rfl) (by kernel_rfl) (by kernel_rfl) (fun _ _ _ h => h) (Or.inl ⟨by kernel_rfl, ?h8⟩) HS ?r8
    case h8 => (rintro w ⟨e0, e1, e2, e3, e4⟩; go_simp) <;> with_reducible rfl
    try simp only [Act.put, List.getElem_toArray, List.getElem_cons_succ, List.getElem_cons_zero, List.setIfInBounds_toArray, List.set_cons_zero, List.set_cons_succ]
    refine wpAnyH_take (i := 8) (v := ?v9) rfl (by kernel_rfl) (by kernel_rfl) (by kernel_rfl) (fun _ _ _ h => h) (Or.inl ⟨by kernel_rfl, ?h9⟩) HS ?r9
    case h9 => (rintro w ⟨e0, e1, e2, e3, e4⟩; go_simp) <;> with_reducible rfl
    try simp only [Act.put, List.getElem_toArray, List.getElem_cons_succ, List.getElem_cons_zero, List.setIfInBounds_toArray, List.set_cons_zero, List.set_cons_succ]
    refine wpAnyH_take (i := 9) (v := ?v10) rfl (by kernel_rfl) (by kernel_rfl) (by kernel_rfl) (fun _ _ _ h => h) (Or.inl ⟨by kernel_rfl, ?h10⟩) HS ?r10
    case h10 => (rintro w ⟨e0, e1, e2, e3, e4⟩; go_simp) <;> with_reducible rfl
    try simp only [Act.put, List.getElem_toArray, List.getElem_cons_succ, List.getElem_cons_zero, List.setIfInBounds_toArray, List.set_cons_zero, List.set_cons_succ]
    refine wpAnyH_take (i := 10) (v := ?v11) rfl (by kernel_rfl) (by kernel_rfl) (by kernel_rfl) (fun _ _ _ h => h) (Or.inl ⟨by kernel_rfl, ?h11⟩) HS ?r11
    case h11 => (rintro w ⟨e0, e1, e2, e3, e4⟩; go_simp) <;> with_reducible rfl
    try simp only [Act.put, List.getElem_toArray, List.getElem_cons_succ, List.getElem_cons_zero, List.setIfInBounds_toArray, List.set_cons_zero, List.set_cons_succ]
    refine wpAnyH_take (i := 11) (v := ?v12) rfl (by kernel_rfl) (by kernel_rfl) (by kernel_rfl) (fun _ _ _ h => h) (Or.inl ⟨by kernel_rfl, ?h12⟩) HS ?r12
    case h12 => (rintro w ⟨e0, e1, e2, e3, e4⟩; go_simp) <;> with_reducible rfl
    try simp only [Act.put, List.getElem_toArray, List.getElem_cons_succ, List.getElem_cons_zero, List.setIfInBounds_toArray, List.set_cons_zero, List.set_cons_succ]
    refine wpAnyH_take (i := 12) (v := ?v13) rfl (by kernel_rfl) (by kernel_rfl) (by kernel_rfl) (fun _ _ _ h => h) (Or.inl ⟨by kernel_rfl, ?h13⟩) HS ?r13
    case h13 => (rintro w ⟨e0, e1, e2, e3, e4⟩; go_simp) <;> with_reducible rfl
    try simp only [Act.put, List.getElem_toArray, List.getElem_cons_succ, List.getElem_cons_zero, List.setIfInBounds_toArray, List.set_cons_zero, List.set_cons_succ]
    refine wpAnyH_take (i := 13) (v := ?v14) rfl (by kernel_rfl) (by kernel_rfl) (by kernel_rfl) (fun _ _ _ h => h) (Or.inl ⟨by kernel_rfl, ?h14⟩) HS ?r14
    case h14 => (rintro w ⟨e0, e1, e2, e3, e4⟩; go_simp) <;> with_reducible rfl
    try simp only [Act.put, List.getElem_toArray, List.getElem_cons_succ, List.getElem_cons_zero, List.setIfInBounds_toArray, List.set_cons_zero, List.set_cons_succ]
    refine wpAnyH_take (i := 14) (v := ?v15) rfl (by kernel_rfl) (by kernel_rfl) (by kernel_rfl) (fun _ _ _ h => h) (Or.inl ⟨by kernel_rfl, ?h15⟩) HS ?r15
    case h15 => (rintro w ⟨e0, e1, e2, e3, e4⟩; go_simp) <;> with_reducible rfl
    try simp only [Act.put, List.getElem_toArray, List.getElem_cons_succ, List.getElem_cons_zero, List.setIfInBounds_toArray, List.set_cons_zero, List.set_cons_succ]
    refine wpAnyH_take (i := 15) (v := ?v16) rfl (by kernel_rfl) (by kernel_rfl) (by kernel_rfl) (fun _ _ _ h => h) (Or.inl ⟨by kernel_rfl, ?h16⟩) HS ?r16
    case h16 => (rintro w ⟨e0, e1, e2, e3, e4⟩; go_simp) <;> with_reducible rfl
    try simp only [Act.put, List.getElem_toArray, List.getElem_cons_succ, List.getElem_cons_zero, List.setIfInBounds_toArray, List.set_cons_zero, List.set_cons_succ]
    refine wpAnyH_take (i := 16) (v := ?v17) rfl (by kernel_rfl) (by kernel_rfl) (by kernel_rfl) (fun _ _ _ h => h) (Or.inl ⟨by kernel_rfl, ?h17⟩) HS ?r17
    case h17 => (rintro w ⟨e0, e1, e2, e3, e4⟩; go_simp) <;> with_reducible rfl
    try simp only [Act.put, List.getElem_toArray, List.getElem_cons_succ, List.getElem_cons_zero, List.setIfInBounds_toArray, List.set_cons_zero, List.set_cons_succ]
    refine wpAnyH_take (i := 17) (v := ?v18) rfl (by kernel_rfl) (by kernel_rfl) (by kernel_rfl) (fun _ _ _ h => h) (Or.inl ⟨by kernel_rfl, ?h18⟩) HS ?r18
    case h18 => (rintro w ⟨e0, e1, e2, e3, e4⟩; go_simp) <;> with_reducible rfl
    try simp only [Act.put, List.getElem_toArray, List.getElem_cons_succ, List.getElem_cons_zero, List.setIfInBounds_toArray, List.set_cons_zero, List.set_cons_succ]
    refine wpAnyH_take (i := 18) (v := ?v19) rfl (by kernel_rfl) (by kernel_rfl) (by kernel_rfl) (fun _ _ _ h => h) (Or.inl ⟨by kernel_rfl, ?h19⟩) HS ?r19
    case h19 => (rintro w ⟨e0, e1, e2, e3, e4⟩; go_simp) <;> with_reducible rfl
    try simp only [Act.put, List.getElem_toArray, List.getElem_cons_succ, List.getElem_cons_zero, List.setIfInBounds_toArray, List.set_cons_zero, List.set_cons_succ]
    refine wpAnyH_take (i := 19) (v := ?v20) rfl (by kernel_rfl) (by kernel_rfl) (by kernel_rfl) (fun _ _ _ h => h) (Or.inl ⟨by kernel_rfl, ?h20⟩) HS ?r20
    case h20 => (rintro w ⟨e0, e1, e2, e3, e4⟩; go_simp) <;> with_reducible rfl
    try simp only [Act.put, List.getElem_toArray, List.getElem_cons_succ, List.getElem_cons_zero, List.setIfInBounds_toArray, List.set_cons_zero, List.set_cons_succ]
    refine wpAnyH_done (by kernel_rfl) ?_ _
    by_cases ht : lt = zl
    · subst ht
      go_wp2
      go_ret
      exact ⟨by show Ending.returned (Value.bool _) = Ending.returned (Value.bool _); unfold mfB; simp, HW.out⟩
    · have htI : ¬ (lt : Int) = (zl : Int) := by omega
      go_wp2
      go_ret
      exact ⟨by show Ending.returned (Value.bool _) = Ending.returned (Value.bool _); unfold mfB; simp [ht, htI], HW.out⟩
  · have hxI : ¬ (lx : Int) = (z0 : Int) := by omega
    have hx2 : ((lx : Int) != (z0 : Int)) = true := by simp [hxI]
    refine wp_region_held_drew (S := fun W' => W'.cell? ⟨w.heap.size, 0, none⟩ = some (.slice adx lx cax) ∧ W'.cell? ⟨w.heap.size, 1, none⟩ = some (.slice adt lt cat) ∧ W'.cell? ⟨bb, 0, none⟩ = some (.slice (some ⟨bs, os, none⟩) m cas) ∧ W'.cell? ⟨bs, os, none⟩ = some (.int .i64 (z0 : Int)) ∧ W'.cell? ⟨bs, os + n, none⟩ = some (.int .i64 (zl : Int))) (by kernel_rfl) ⟨x0, x1, y0, y1, y2⟩ (fun HS => ?_)
    generalize w1.drew = wd at *
    refine wpAnyH_take (i := 0) (v := ?v21) rfl (by kernel_rfl) (by kernel_rfl) (by kernel_rfl) (fun _ _ _ h => h) (Or.inl ⟨by kernel_rfl, ?h21⟩) HS ?r21
    case h21 => (rintro w ⟨e0, e1, e2, e3, e4⟩; go_simp) <;> with_reducible rfl
    try simp only [Act.put, List.getElem_toArray, List.getElem_cons_succ, List.getElem_cons_zero, List.setIfInBounds_toArray, List.set_cons_zero, List.set_cons_succ]
    refine wpAnyH_take (i := 1) (v := ?v22) rfl (by kernel_rfl) (by kernel_rfl) (by kernel_rfl) (fun _ _ _ h => h) (Or.inl ⟨by kernel_rfl, ?h22⟩) HS ?r22
    case h22 => (rintro w ⟨e0, e1, e2, e3, e4⟩; go_simp) <;> with_reducible rfl
    try simp only [Act.put, List.getElem_toArray, List.getElem_cons_succ, List.getElem_cons_zero, List.setIfInBounds_toArray, List.set_cons_zero, List.set_cons_succ]
    refine wpAnyH_take (i := 2) (v := ?v23) rfl (by kernel_rfl) (by kernel_rfl) (by kernel_rfl) (fun _ _ _ h => h) (Or.inl ⟨by kernel_rfl, ?h23⟩) HS ?r23
    case h23 => (rintro w ⟨e0, e1, e2, e3, e4⟩; go_simp) <;> with_reducible rfl
    try simp only [Act.put, List.getElem_toArray, List.getElem_cons_succ, List.getElem_cons_zero, List.setIfInBounds_toArray, List.set_cons_zero, List.set_cons_succ]
    refine wpAnyH_take (i := 3) (v := ?v24) rfl (by kernel_rfl) (by kernel_rfl) (by kernel_rfl) (fun _ _ _ h => h) (Or.inl ⟨by kernel_rfl, ?h24⟩) HS ?r24
    case h24 => (rintro w ⟨e0, e1, e2, e3, e4⟩; go_simp) <;> with_reducible rfl
    try simp only [Act.put, List.getElem_toArray, List.getElem_cons_succ, List.getElem_cons_zero, List.setIfInBounds_toArray, List.set_cons_zero, List.set_cons_succ]
    refine wpAnyH_take (i := 4) (v := ?v25) rfl (by kernel_rfl) (by kernel_rfl) (by kernel_rfl) (fun _ _ _ h => h) (Or.inl ⟨by kernel_rfl, ?h25⟩) HS ?r25
    case h25 => (rintro w ⟨e0, e1, e2, e3, e4⟩; go_simp) <;> with_reducible rfl
    try simp only [Act.put, List.getElem_toArray, List.getElem_cons_succ, List.getElem_cons_zero, List.setIfInBounds_toArray, List.set_cons_zero, List.set_cons_succ]
    refine wpAnyH_take (i := 5) (v := ?v26) rfl (by kernel_rfl) (by kernel_rfl) (by kernel_rfl) (fun _ _ _ h => h) (Or.inl ⟨by kernel_rfl, ?h26⟩) HS ?r26
    case h26 => (rintro w ⟨e0, e1, e2, e3, e4⟩; go_simp) <;> with_reducible rfl
    try simp only [Act.put, List.getElem_toArray, List.getElem_cons_succ, List.getElem_cons_zero, List.setIfInBounds_toArray, List.set_cons_zero, List.set_cons_succ]
    refine wpAnyH_take (i := 6) (v := ?v27) rfl (by kernel_rfl) (by kernel_rfl) (by kernel_rfl) (fun _ _ _ h => h) (Or.inl ⟨by kernel_rfl, ?h27⟩) HS ?r27
    case h27 => (rintro w ⟨e0, e1, e2, e3, e4⟩; go_simp) <;> with_reducible rfl
    try simp only [Act.put, List.getElem_toArray, List.getElem_cons_succ, List.getElem_cons_zero, List.setIfInBounds_toArray, List.set_cons_zero, List.set_cons_succ]
    refine wpAnyH_take (i := 7) (v := ?v28) rfl (by kernel_rfl) (by kernel_rfl) (by kernel_rfl) (fun _ _ _ h => h) (Or.inl ⟨by kernel_rfl, ?h28⟩) HS ?r28
    case h28 => (rintro w ⟨e0, e1, e2, e3, e4⟩; go_simp) <;> with_reducible rfl
    try simp only [Act.put, List.getElem_toArray, List.getElem_cons_succ, List.getElem_cons_zero, List.setIfInBounds_toArray, List.set_cons_zero, List.set_cons_succ]
    refine wpAnyH_take (i := 8) (v := undef) rfl (by kernel_rfl) (by kernel_rfl) (by kernel_rfl) (fun _ _ _ h => h) (Or.inr ⟨by kernel_rfl, rfl⟩) HS ?_
    try simp only [Act.put, List.getElem_toArray, List.getElem_cons_succ, List.getElem_cons_zero, List.setIfInBounds_toArray, List.set_cons_zero, List.set_cons_succ]
    refine wpAnyH_take (i := 9) (v := undef) rfl (by kernel_rfl) (by kernel_rfl) (by kernel_rfl) (fun _ _ _ h => h) (Or.inr ⟨by kernel_rfl, rfl⟩) HS ?_
    try simp only [Act.put, List.getElem_toArray, List.getElem_cons_succ, List.getElem_cons_zero, List.setIfInBounds_toArray, List.set_cons_zero, List.set_cons_succ]
    refine wpAnyH_take (i := 10) (v := undef) rfl (by kernel_rfl) (by kernel_rfl) (by kernel_rfl) (fun _ _ _ h => h) (Or.inr ⟨by kernel_rfl, rfl⟩) HS ?_
    try simp only [Act.put, List.getElem_toArray, List.getElem_cons_succ, List.getElem_cons_zero, List.setIfInBounds_toArray, List.set_cons_zero, List.set_cons_succ]
    refine wpAnyH_take (i := 11) (v := undef) rfl (by kernel_rfl) (by kernel_rfl) (by kernel_rfl) (fun _ _ _ h => h) (Or.inr ⟨by kernel_rfl, rfl⟩) HS ?_
    try simp only [Act.put, List.getElem_toArray, List.getElem_cons_succ, List.getElem_cons_zero, List.setIfInBounds_toArray, List.set_cons_zero, List.set_cons_succ]
    refine wpAnyH_take (i := 12) (v := undef) rfl (by kernel_rfl) (by kernel_rfl) (by kernel_rfl) (fun _ _ _ h => h) (Or.inr ⟨by kernel_rfl, rfl⟩) HS ?_
    try simp only [Act.put, List.getElem_toArray, List.getElem_cons_succ, List.getElem_cons_zero, List.setIfInBounds_toArray, List.set_cons_zero, List.set_cons_succ]
    refine wpAnyH_take (i := 13) (v := undef) rfl (by kernel_rfl) (by kernel_rfl) (by kernel_rfl) (fun _ _ _ h => h) (Or.inr ⟨by kernel_rfl, rfl⟩) HS ?_
    try simp only [Act.put, List.getElem_toArray, List.getElem_cons_succ, List.getElem_cons_zero, List.setIfInBounds_toArray, List.set_cons_zero, List.set_cons_succ]
    refine wpAnyH_take (i := 14) (v := undef) rfl (by kernel_rfl) (by kernel_rfl) (by kernel_rfl) (fun _ _ _ h => h) (Or.inr ⟨by kernel_rfl, rfl⟩) HS ?_
    try simp only [Act.put, List.getElem_toArray, List.getElem_cons_succ, List.getElem_cons_zero, List.setIfInBounds_toArray, List.set_cons_zero, List.set_cons_succ]
    refine wpAnyH_take (i := 15) (v := undef) rfl (by kernel_rfl) (by kernel_rfl) (by kernel_rfl) (fun _ _ _ h => h) (Or.inr ⟨by kernel_rfl, rfl⟩) HS ?_
    try simp only [Act.put, List.getElem_toArray, List.getElem_cons_succ, List.getElem_cons_zero, List.setIfInBounds_toArray, List.set_cons_zero, List.set_cons_succ]
    refine wpAnyH_take (i := 16) (v := undef) rfl (by kernel_rfl) (by kernel_rfl) (by kernel_rfl) (fun _ _ _ h => h) (Or.inr ⟨by kernel_rfl, rfl⟩) HS ?_
    try simp only [Act.put, List.getElem_toArray, List.getElem_cons_succ, List.getElem_cons_zero, List.setIfInBounds_toArray, List.set_cons_zero, List.set_cons_succ]
    refine wpAnyH_take (i := 17) (v := undef) rfl (by kernel_rfl) (by kernel_rfl) (by kernel_rfl) (fun _ _ _ h => h) (Or.inr ⟨by kernel_rfl, rfl⟩) HS ?_
    try simp only [Act.put, List.getElem_toArray, List.getElem_cons_succ, List.getElem_cons_zero, List.setIfInBounds_toArray, List.set_cons_zero, List.set_cons_succ]
    refine wpAnyH_take (i := 18) (v := ?v29) rfl (by kernel_rfl) (by kernel_rfl) (by kernel_rfl) (fun _ _ _ h => h) (Or.inl ⟨by kernel_rfl, ?h29⟩) HS ?r29
    case h29 => (rintro w ⟨e0, e1, e2, e3, e4⟩; go_simp) <;> with_reducible rfl
    try simp only [Act.put, List.getElem_toArray, List.getElem_cons_succ, List.getElem_cons_zero, List.setIfInBounds_toArray, List.set_cons_zero, List.set_cons_succ]
    refine wpAnyH_take (i := 19) (v := ?v30) rfl (by kernel_rfl) (by kernel_rfl) (by kernel_rfl) (fun _ _ _ h => h) (Or.inl ⟨by kernel_rfl, ?h30⟩) HS ?r30
    case h30 => (rintro w ⟨e0, e1, e2, e3, e4⟩; go_simp) <;> with_reducible rfl
    try simp only [Act.put, List.getElem_toArray, List.getElem_cons_succ, List.getElem_cons_zero, List.setIfInBounds_toArray, List.set_cons_zero, List.set_cons_succ]
    refine wpAnyH_done (by kernel_rfl) ?_ _
    go_wp2
    go_ret
    exact ⟨by show Ending.returned (Value.bool _) = Ending.returned (Value.bool _); unfold mfB; simp [hx, hxI], HW.out⟩
def Exl (w : World) (v : Value) (K : Nat) (nx nt : Nat → Nat) : Prop :=
  ∃ (adr : Option Addr) (cap be oe : Nat), v = .slice adr K cap ∧ K ≤ cap ∧ cap ≤ maxLen ∧ (0 < K → adr = some ⟨be, oe, none⟩) ∧ ∀ k, k < K → ∃ (adx adt : Option Addr) (cax cat : Nat), w.cell? ⟨be, oe + k * 2, none⟩ = some (.slice adx (nx k) cax) ∧ w.cell? ⟨be, oe + k * 2 + 1, none⟩ = some (.slice adt (nt k) cat)
def mfX (z0 zl : Nat) (nx nt : Nat → Nat) (K : Nat) : Bool := (List.range K).any (fun k => mfB z0 zl (nx k) (nt k))
theorem mfX_yes {z0 zl : Nat} {nx nt : Nat → Nat} {K k : Nat} (hk : k < K) (h : mfB z0 zl (nx k) (nt k) = true) : mfX z0 zl nx nt K = true := List.any_eq_true.2 ⟨k, List.mem_range.2 hk, h⟩
theorem mfX_no {z0 zl : Nat} {nx nt : Nat → Nat} {K : Nat} (h : ∀ k, k < K → mfB z0 zl (nx k) (nt k) = false) : mfX z0 zl nx nt K = false := by
  rw [Bool.eq_false_iff]
  intro e
  obtain ⟨k, hk, h2⟩ := List.any_eq_true.1 e
  rw [h k (List.mem_range.1 hk)] at h2
  cases h2
set_option maxRecDepth 100000 in
set_option maxHeartbeats 4000000 in
theorem indexE_any (v : Value) (K : Nat) (nx nt : Nat → Nat) (bs os m cas bb z0 zl : Nat) (hm : 1 ≤ m) (hm2 : m ≤ 6) (w : World) (hE : Exl w v K nx nt) (hb : w.cell? ⟨bb, 0, none⟩ = some (.slice (some ⟨bs, os, none⟩) m cas)) (h0 : w.cell? ⟨bs, os, none⟩ = some (.int .i64 (z0 : Int))) (hl : w.cell? ⟨bs, os + (m - 1), none⟩ = some (.int .i64 (zl : Int))) :
    Calls Tryz.prog 53 #[v, .func (.func 54) #[] #[.pointer (some ⟨bb, 0, none⟩)]] w fun e w' => ∃ i : Int, e = .returned (.int .i64 i) ∧ (mfX z0 zl nx nt K = true → 0 ≤ i) ∧ (mfX z0 zl nx nt K = false → i < 0) ∧ Below w.heap.size w w' := by
  obtain ⟨adr, cap, be, oe, rfl, k1, k2, k3, k4⟩ := hE
  unfold maxLen at k2
  have HC : Hid (∀ k, k < K → ∃ (adx adt : Option Addr) (cax cat : Nat), w.cell? ⟨be, oe + k * 2, none⟩ = some (.slice adx (nx k) cax) ∧ w.cell? ⟨be, oe + k * 2 + 1, none⟩ = some (.slice adt (nt k) cat)) := k4
  have HK : Hid (0 < K → adr = some ⟨be, oe, none⟩) := k3
  have HCl : Hid (∀ (W : World) (lx lt : Nat) (adx adt : Option Addr) (cax cat : Nat), Below w.heap.size w W → Calls Tryz.prog 54 #[.agg #[.slice adx lx cax, .slice adt lt cat], .pointer (some ⟨bb, 0, none⟩)] W fun e w' => e = .returned (.bool (mfB z0 zl lx lt)) ∧ Below W.heap.size W w') := fun W lx lt adx adt cax cat hB => misfit1_any bs os m cas bb z0 zl lx lt adx adt cax cat hm hm2 W (cell_later hB hb) (cell_later hB h0) (cell_later hB hl)
  clear k3 k4 hb h0 hl
  go_enter Tryz.func53, Tryz.ntmps53
  go_wp2
  go_loopw [8] (fun s8 wr => ∃ j : Nat, j ≤ K ∧ s8 = .int .i64 (j : Int) ∧ Hid (∀ k, k < j → mfB z0 zl (nx k) (nt k) = false) ∧ Hid (Below w.heap.size w wr)) (fun s8 _ => K - (intOf s8).toNat)
  case atStart => exact ⟨0, by omega, rfl, fun k hk => by omega, Below.refl _ _⟩
  case round =>
    obtain ⟨j, hj, rfl, hA, HW⟩ := hrel
    by_cases hlt : j < K
    · have hjI : (j : Int) < (K : Int) := by omega
      have ea := HK.out (by omega)
      subst ea
      obtain ⟨adx, adt, cax, cat, c0, c1⟩ := HC.out j hlt
      have d0 := cell_later HW.out c0
      have d1 := cell_later HW.out c1
      have CT := HCl.out wr (nx j) (nt j) adx adt cax cat HW.out
      clear c0 c1
      cases hb : mfB z0 zl (nx j) (nt j) with
      | true =>
        rw [hb] at CT
        have HF : Hid (mfX z0 zl nx nt K = true) := mfX_yes hlt hb
        clear hb hA
        go_wp2_with (go_at_call 54; refine CT.mono ?_; rintro e wz ⟨rfl, hz⟩; have HWz : Hid (Below w.heap.size w wz) := bchain HW.out hz; clear hz)
        go_ret
        exact ⟨_, rfl, fun _ => by omega, fun h => (by rw [HF.out] at h; cases h), HWz.out⟩
      | false =>
        rw [hb] at CT
        have HA2 : Hid (∀ k, k < j + 1 → mfB z0 zl (nx k) (nt k) = false) := fun k hk => by
          rcases Nat.lt_or_ge k j with h | h
          · exact hA.out k h
          · obtain rfl : k = j := by omega
            exact hb
        clear hb hA
        go_wp2_with (go_at_call 54; refine CT.mono ?_; rintro e wz ⟨rfl, hz⟩; have HWz : Hid (Below w.heap.size w wz) := bchain HW.out hz; clear hz)
        go_roundw
        case rel => exact ⟨j + 1, by omega, by go_num, HA2, HWz⟩
        case measure => simp [intOf]; omega
    · have HF : Hid (mfX z0 zl nx nt K = false) := mfX_no (fun k hk => hA.out k (by omega))
      have hjI : ¬ (j : Int) < (K : Int) := by omega
      clear hA
      go_wp2
      go_ret
      exact ⟨_, rfl, fun h => (by rw [HF.out] at h; cases h), fun _ => by omega, HW.out⟩
set_option maxHeartbeats 1000000 in
theorem containsE_any (v : Value) (K : Nat) (nx nt : Nat → Nat) (bs os m cas bb z0 zl : Nat) (hm : 1 ≤ m) (hm2 : m ≤ 6) (w : World) (hE : Exl w v K nx nt) (hb : w.cell? ⟨bb, 0, none⟩ = some (.slice (some ⟨bs, os, none⟩) m cas)) (h0 : w.cell? ⟨bs, os, none⟩ = some (.int .i64 (z0 : Int))) (hl : w.cell? ⟨bs, os + (m - 1), none⟩ = some (.int .i64 (zl : Int))) :
    Calls Tryz.prog 26 #[v, .func (.func 54) #[] #[.pointer (some ⟨bb, 0, none⟩)]] w fun e w' => e = .returned (.bool (mfX z0 zl nx nt K)) ∧ Below w.heap.size w w' := by
  have CI := indexE_any v K nx nt bs os m cas bb z0 zl hm hm2 w hE hb h0 hl
  obtain ⟨adr, cap, be, oe, rfl, -, -, -, -⟩ := hE
  clear hb h0 hl
  generalize mfX z0 zl nx nt K = B at *
  cases B
  · go_enter Tryz.func26, Tryz.ntmps26
    go_wp2_with fail
    refine CI.mono ?_
    rintro e wz ⟨i, rfl, -, h1, hz⟩
    have h2 : ¬ (0 : Int) ≤ i := by have := h1 (by trivial); omega
    clear CI h1
    go_wp2
    go_ret
    exact ⟨by simp [h2], hz⟩
  · go_enter Tryz.func26, Tryz.ntmps26
    go_wp2_with fail
    refine CI.mono ?_
    rintro e wz ⟨i, rfl, h1, -, hz⟩
    have h2 : (0 : Int) ≤ i := h1 (by trivial)
    clear CI h1
    go_wp2
    go_ret
    exact ⟨by simp [h2], hz⟩
end Go.Proofs.YtcaficenocblfaaGreatDoor
set_option linter.unusedVariables false
set_option linter.unusedSimpArgs false
namespace Go.Proofs.YtcaficenocblfaaGreatDoor
open Go.RowKit

set_option maxHeartbeats 1000000 in
theorem misfit_any (ads : Option Addr) (m cas : Nat) (w : World) :
    Calls Tryz.prog 27 #[.slice ads m cas] w fun e w' => e = .returned (.func (.func 54) #[] #[.pointer (some ⟨w.heap.size, 0, none⟩)]) ∧ w'.cell? ⟨w.heap.size, 0, none⟩ = some (.slice ads m cas) ∧ Below w.heap.size w w' := by
  have hmf := hmf_any
  have HW : Hid (Below w.heap.size w (w.alloc (.cells #[.slice ads m cas] 22)) ∧ (w.alloc (.cells #[.slice ads m cas] 22)).cell? ⟨w.heap.size, 0, none⟩ = some (.slice ads m cas)) := ⟨bel1 _ _, cell_new1 _ _ _⟩
  go_enter Tryz.func27, Tryz.ntmps27
  go_wp2
  go_ret
  exact ⟨rfl, HW.out.2, HW.out.1⟩
set_option maxHeartbeats 2000000 in
theorem check_sz (L : Int) (vs vp vE : Value) (m lp K : Nat) (f P : Nat → Int) (nx nt : Nat → Nat) (w : World) (hA : Ar w vs m f) (hP : Ar w vp lp P) (hE : Exl w vE K nx nt) (hz : ¬ (2 ≤ m ∧ m ≤ 6 ∧ szB f m)) :
    Calls Tryz.prog 16 #[.int .i64 L, vs, vp, vE] w fun e w' => e = .returned (.int .i64 70) ∧ w' = w := by
  have CC := pCount_no vs m f w hA hz
  obtain ⟨ads, cas, bs, os, rfl, -, -, -, -⟩ := hA
  obtain ⟨adp, cpp, bp, op, rfl, -, -, -, -⟩ := hP
  obtain ⟨ade, cae, be, oe, rfl, -, -, -, -⟩ := hE
  clear hz
  go_enter Tryz.func16, Tryz.ntmps16
  go_wp2_with fail
  refine CC.mono ?_
  rintro e wz ⟨rfl, hz⟩
  subst hz
  clear CC
  go_wp2
  go_ret
  exact ⟨rfl, rfl⟩
def chE (L : Int) (K lp cp : Nat) (mis : Bool) : Int := if L = 1 ∨ L = 2 then (if K < 1 ∨ 64 < K then 2 else if lp = cp ∧ mis = false then 0 else 40) else 71
set_option maxRecDepth 100000 in
set_option maxHeartbeats 4000000 in
theorem check_any7 (L : Int) (vs vp vE : Value) (m lp K : Nat) (z : Nat → Nat) (P : Nat → Int) (nx nt : Nat → Nat) (w : World) (hA : Ar w vs m (fun i => ((z i : Nat) : Int))) (hP : Ar w vp lp P) (hE : Exl w vE K nx nt) (hz : Szs z m) :
    Calls Tryz.prog 16 #[.int .i64 L, vs, vp, vE] w fun e w' => e = .returned (.int .i64 (chE L K lp (fsN z (m - 1)) (mfX (z 0) (z (m - 1)) nx nt K))) ∧ Below w.heap.size w w' := by
  have CC := pCount_yes vs m z w hA hz
  obtain ⟨m2, m6, -⟩ := hz
  obtain ⟨ads, cas, bs, os, rfl, a1, a2, a3, a4⟩ := hA
  have ea := a3 (by omega)
  subst ea
  have HCn : Hid (∀ (W : World) (bb : Nat), Below w.heap.size w W → W.cell? ⟨bb, 0, none⟩ = some (.slice (some ⟨bs, os, none⟩) m cas) → Calls Tryz.prog 26 #[vE, .func (.func 54) #[] #[.pointer (some ⟨bb, 0, none⟩)]] W fun e w' => e = .returned (.bool (mfX (z 0) (z (m - 1)) nx nt K)) ∧ Below W.heap.size W w') := fun W bb hB hc => by
    refine containsE_any vE K nx nt bs os m cas bb (z 0) (z (m - 1)) (by omega) m6 W ?_ hc (cell_later hB (a4 0 (by omega)).1) (cell_later hB (a4 (m - 1) (by omega)).1)
    obtain ⟨ade, cae, be, oe, e, b1, b2, b3, b4⟩ := hE
    exact ⟨ade, cae, be, oe, e, b1, b2, b3, fun k hk => by obtain ⟨p1, p2, p3, p4, p5, p6⟩ := b4 k hk; exact ⟨p1, p2, p3, p4, cell_later hB p5, cell_later hB p6⟩⟩
  have HMf : Hid (∀ W : World, Calls Tryz.prog 27 #[.slice (some ⟨bs, os, none⟩) m cas] W fun e w' => e = .returned (.func (.func 54) #[] #[.pointer (some ⟨W.heap.size, 0, none⟩)]) ∧ w'.cell? ⟨W.heap.size, 0, none⟩ = some (.slice (some ⟨bs, os, none⟩) m cas) ∧ Below W.heap.size W w') := fun W => misfit_any _ _ _ W
  have hB0 : Hid (Below w.heap.size w w) := Below.refl _ _
  obtain ⟨adp, cpp, bp, op, rfl, -, -, -, -⟩ := hP
  obtain ⟨ade, cae, be, oe, rfl, k1, k2, -, -⟩ := hE
  unfold maxLen at k2
  unfold chE
  generalize mfX (z 0) (z (m - 1)) nx nt K = mis at *
  generalize fsN z (m - 1) = cp at *
  clear a3 a4
  by_cases hL1 : L = 1 ∨ L = 2
  · rw [if_pos hL1]
    by_cases hK : K < 1 ∨ 64 < K
    · rw [if_pos hK]
      rcases hL1 with rfl | rfl
      · by_cases hK0 : K < 1
        · have hK1 : (K : Int) < 1 := by omega
          go_enter Tryz.func16, Tryz.ntmps16
          go_wp2_with fail
          refine CC.mono ?_
          rintro e wz ⟨rfl, hz⟩
          subst hz
          go_wp2_with fail
          refine (measureOf_sq wz).mono ?_
          rintro e wy ⟨rfl, hz⟩
          subst hz
          go_wp2
          go_ret
          exact ⟨rfl, hB0.out⟩
        · have hK1 : ¬ (K : Int) < 1 := by omega
          have hK2 : (64 : Int) < (K : Int) := by omega
          go_enter Tryz.func16, Tryz.ntmps16
          go_wp2_with fail
          refine CC.mono ?_
          rintro e wz ⟨rfl, hz⟩
          subst hz
          go_wp2_with fail
          refine (measureOf_sq wz).mono ?_
          rintro e wy ⟨rfl, hz⟩
          subst hz
          go_wp2
          go_ret
          exact ⟨rfl, hB0.out⟩
      · by_cases hK0 : K < 1
        · have hK1 : (K : Int) < 1 := by omega
          go_enter Tryz.func16, Tryz.ntmps16
          go_wp2_with fail
          refine CC.mono ?_
          rintro e wz ⟨rfl, hz⟩
          subst hz
          go_wp2_with fail
          refine (measureOf_hg wz).mono ?_
          rintro e wy ⟨rfl, hz⟩
          subst hz
          go_wp2
          go_ret
          exact ⟨rfl, hB0.out⟩
        · have hK1 : ¬ (K : Int) < 1 := by omega
          have hK2 : (64 : Int) < (K : Int) := by omega
          go_enter Tryz.func16, Tryz.ntmps16
          go_wp2_with fail
          refine CC.mono ?_
          rintro e wz ⟨rfl, hz⟩
          subst hz
          go_wp2_with fail
          refine (measureOf_hg wz).mono ?_
          rintro e wy ⟨rfl, hz⟩
          subst hz
          go_wp2
          go_ret
          exact ⟨rfl, hB0.out⟩
    · rw [if_neg hK]
      have hK1 : ¬ (K : Int) < 1 := by omega
      have hK2 : ¬ (64 : Int) < (K : Int) := by omega
      by_cases hlp : lp = cp
      · cases mis
        · rw [if_pos ⟨hlp, rfl⟩]
          subst hlp
          rcases hL1 with rfl | rfl
          · skip
            go_enter Tryz.func16, Tryz.ntmps16
            go_wp2_with fail
            refine CC.mono ?_
            rintro e wz ⟨rfl, hz⟩
            subst hz
            go_wp2_with fail
            refine (measureOf_sq wz).mono ?_
            rintro e wy ⟨rfl, hz⟩
            subst hz
            go_wp2_with fail
            refine (HMf.out _).mono ?_
            rintro e w3 ⟨rfl, hc3, h3⟩
            have CN := HCn.out w3 _ h3 hc3
            have HB3 : Hid (Below _ _ w3) := h3
            clear h3 hc3
            go_wp2_with fail
            refine CN.mono ?_
            rintro e w4 ⟨rfl, h4⟩
            have HB4 : Hid (Below _ _ w4) := bchain HB3.out h4
            clear h4 CN HB3
            go_wp2
            go_ret
            exact ⟨rfl, HB4.out⟩
          · skip
            go_enter Tryz.func16, Tryz.ntmps16
            go_wp2_with fail
            refine CC.mono ?_
            rintro e wz ⟨rfl, hz⟩
            subst hz
            go_wp2_with fail
            refine (measureOf_hg wz).mono ?_
            rintro e wy ⟨rfl, hz⟩
            subst hz
            go_wp2_with fail
            refine (HMf.out _).mono ?_
            rintro e w3 ⟨rfl, hc3, h3⟩
            have CN := HCn.out w3 _ h3 hc3
            have HB3 : Hid (Below _ _ w3) := h3
            clear h3 hc3
            go_wp2_with fail
            refine CN.mono ?_
            rintro e w4 ⟨rfl, h4⟩
            have HB4 : Hid (Below _ _ w4) := bchain HB3.out h4
            clear h4 CN HB3
            go_wp2
            go_ret
            exact ⟨rfl, HB4.out⟩
        · rw [if_neg (by simp)]
          subst hlp
          rcases hL1 with rfl | rfl
          · skip
            go_enter Tryz.func16, Tryz.ntmps16
            go_wp2_with fail
            refine CC.mono ?_
            rintro e wz ⟨rfl, hz⟩
            subst hz
            go_wp2_with fail
            refine (measureOf_sq wz).mono ?_
            rintro e wy ⟨rfl, hz⟩
            subst hz
            go_wp2_with fail
            refine (HMf.out _).mono ?_
            rintro e w3 ⟨rfl, hc3, h3⟩
            have CN := HCn.out w3 _ h3 hc3
            have HB3 : Hid (Below _ _ w3) := h3
            clear h3 hc3
            go_wp2_with fail
            refine CN.mono ?_
            rintro e w4 ⟨rfl, h4⟩
            have HB4 : Hid (Below _ _ w4) := bchain HB3.out h4
            clear h4 CN HB3
            go_wp2
            go_ret
            exact ⟨rfl, HB4.out⟩
          · skip
            go_enter Tryz.func16, Tryz.ntmps16
            go_wp2_with fail
            refine CC.mono ?_
            rintro e wz ⟨rfl, hz⟩
            subst hz
            go_wp2_with fail
            refine (measureOf_hg wz).mono ?_
            rintro e wy ⟨rfl, hz⟩
            subst hz
            go_wp2_with fail
            refine (HMf.out _).mono ?_
            rintro e w3 ⟨rfl, hc3, h3⟩
            have CN := HCn.out w3 _ h3 hc3
            have HB3 : Hid (Below _ _ w3) := h3
            clear h3 hc3
            go_wp2_with fail
            refine CN.mono ?_
            rintro e w4 ⟨rfl, h4⟩
            have HB4 : Hid (Below _ _ w4) := bchain HB3.out h4
            clear h4 CN HB3
            go_wp2
            go_ret
            exact ⟨rfl, HB4.out⟩
      · rw [if_neg (fun h => hlp h.1)]
        have hlpI : ¬ (lp : Int) = (cp : Int) := by omega
        rcases hL1 with rfl | rfl
        · skip
          go_enter Tryz.func16, Tryz.ntmps16
          go_wp2_with fail
          refine CC.mono ?_
          rintro e wz ⟨rfl, hz⟩
          subst hz
          go_wp2_with fail
          refine (measureOf_sq wz).mono ?_
          rintro e wy ⟨rfl, hz⟩
          subst hz
          go_wp2
          go_ret
          exact ⟨rfl, hB0.out⟩
        · skip
          go_enter Tryz.func16, Tryz.ntmps16
          go_wp2_with fail
          refine CC.mono ?_
          rintro e wz ⟨rfl, hz⟩
          subst hz
          go_wp2_with fail
          refine (measureOf_hg wz).mono ?_
          rintro e wy ⟨rfl, hz⟩
          subst hz
          go_wp2
          go_ret
          exact ⟨rfl, hB0.out⟩
  · rw [if_neg hL1]
    have h1 : ¬ L = 1 := fun h => hL1 (Or.inl h)
    have h2 : ¬ L = 2 := fun h => hL1 (Or.inr h)
    clear hL1
    go_enter Tryz.func16, Tryz.ntmps16
    go_wp2_with fail
    refine CC.mono ?_
    rintro e wz ⟨rfl, hz⟩
    subst hz
    go_wp2_with fail
    refine (measureOf_no L h1 h2 wz).mono ?_
    rintro e wy ⟨rfl, hz⟩
    subst hz
    go_wp2
    go_ret
    exact ⟨rfl, hB0.out⟩
end Go.Proofs.YtcaficenocblfaaGreatDoor
set_option linter.unusedVariables false
set_option linter.unusedSimpArgs false
namespace Go.Proofs.YtcaficenocblfaaGreatDoor
open Go.RowKit

theorem exl_one (w : World) (adx adt : Option Addr) (lx lt cax cat : Nat) : Exl (w.alloc (.cells #[.slice adx lx cax, .slice adt lt cat] 42)) (.slice (some ⟨w.heap.size, 0, none⟩) 1 1) 1 (fun _ => lx) (fun _ => lt) := by
  have h := B2.new w (.slice adx lx cax) (.slice adt lt cat) 42
  exact ⟨_, 1, w.heap.size, 0, rfl, Nat.le_refl _, by unfold maxLen; omega, fun _ => rfl, fun k hk => by obtain rfl : k = 0 := (by omega); exact ⟨adx, adt, cax, cat, h.c0, h.c1⟩⟩
theorem mfX_one (z0 zl lx lt : Nat) : mfX z0 zl (fun _ => lx) (fun _ => lt) 1 = mfB z0 zl lx lt := by
  unfold mfX
  simp [List.range_succ]
theorem Ar.lit {w : World} {v : Value} {n : Nat} {f : Nat → Int} (h : Ar w v n f) (hn : 0 < n) : ∃ b o cap, v = .slice (some ⟨b, o, none⟩) n cap := by
  obtain ⟨adr, cap, b, o, e, -, -, h4, -⟩ := h
  exact ⟨b, o, cap, by rw [e, h4 hn]⟩
set_option maxRecDepth 100000 in
set_option maxHeartbeats 8000000 in
theorem pGrad_sq (vs vx vt : Value) (m b o cp cap : Nat) (z : Nat → Nat) (P x t : Nat → Int) (p : Option Addr) (c : Int) (c0 : 0 ≤ c) (c1 : c ≤ 500000000) (w : World) (hS : Ar w vs m (fun i => ((z i : Nat) : Int))) (hP : Ar w (.slice (some ⟨b, o, none⟩) cp cap) cp P) (hX : Ar w vx (z 0) x) (hT : Ar w vt (z (m - 1)) t) (hz : Szs z m) (hcp : cp = fsN z (m - 1)) (nS : Nv vs p) (nP : Nu b p) (nX : Nv vx p) (nT : Nv vt p) (hp : Up p c w) (hTab : TabAt w) :
    Calls Tryz.prog 15 #[.pointer p, .int .i64 (lsK true), vs, .slice (some ⟨b, o, none⟩) cp cap, .agg #[vx, vt]] w fun e w' => ∃ g, e = .returned (.tuple #[.slice (some ⟨g, 0, none⟩) cp cp, .int .i64 (gdX true z m P x t), .int .i64 0]) ∧ Ar w' (.slice (some ⟨g, 0, none⟩) cp cp) cp (gdG true z m P x t) ∧ w.heap.size ≤ g ∧ Ux p (c + gdC true z m P x t) w w' := by
  have HG : Hid (∀ W : World, Below w.heap.size w W → Calls Tryz.prog 17 #[.pointer p, .iface 90 (.agg #[]), vs, .slice (some ⟨b, o, none⟩) cp cap, .agg #[vx, vt]] W fun e w' => ∃ g, e = .returned (.tuple #[.slice (some ⟨g, 0, none⟩) cp cp, .int .i64 (gdX true z m P x t)]) ∧ Ar w' (.slice (some ⟨g, 0, none⟩) cp cp) cp (gdG true z m P x t) ∧ W.heap.size ≤ g ∧ Ux p (c + gdC true z m P x t) W w') := fun W hb => gradient_sq vs vx vt m b o cp cap z P x t p c c0 c1 W (hS.later hb) (hP.later hb) (hX.later hb) (hT.later hb) hz hcp nS nP nX nT (hp.later hb) (hTab.later hb)
  have HUp : Hid (Up p c w) := hp
  have hS' := hS
  obtain ⟨ads, cas, bs, os, rfl, -, -, -, -⟩ := hS
  obtain ⟨adx, cax, bx, ox, rfl, -, -, -, -⟩ := hX
  obtain ⟨adt, cat, bt, ot, rfl, -, -, -, -⟩ := hT
  obtain ⟨w1, hw1⟩ : ∃ w1, w1 = w.alloc (.cells #[.slice adx (z 0) cax, .slice adt (z (m - 1)) cat] 42) := ⟨_, rfl⟩
  have hb1 : Below w.heap.size w w1 := by rw [hw1]; exact bel1 _ _
  have HX1 : B2 w.heap.size (.slice adx (z 0) cax) (.slice adt (z (m - 1)) cat) w1 := by rw [hw1]; exact B2.new w _ _ _
  have hs1 : w1.heap.size = w.heap.size + 1 := by rw [hw1, World.size_alloc]
  obtain ⟨w2, hw2⟩ : ∃ w2, w2 = w1.alloc (.cells #[.slice adx (z 0) cax, .slice adt (z (m - 1)) cat] 42) := ⟨_, rfl⟩
  have hb2 : Below w.heap.size w w2 := by rw [hw2]; exact bchain hb1 (bel1 _ _)
  have HX2 : B2 w.heap.size (.slice adx (z 0) cax) (.slice adt (z (m - 1)) cat) w2 := by rw [hw2]; exact HX1.later (bel1 _ _)
  have hE2 : Exl w2 (.slice (some ⟨w1.heap.size, 0, none⟩) 1 1) 1 (fun _ => z 0) (fun _ => z (m - 1)) := by rw [hw2]; exact exl_one w1 _ _ _ _ _ _
  have CK := check_any7 (lsK true) (.slice ads m cas) (.slice (some ⟨b, o, none⟩) cp cap) _ m cp 1 z P _ _ w2 (hS'.later hb2) (hP.later hb2) hE2 hz
  have eC : chE (lsK true) 1 cp (fsN z (m - 1)) (mfX (z 0) (z (m - 1)) (fun _ => z 0) (fun _ => z (m - 1)) 1) = 0 := by
    unfold chE
    rw [if_pos (by unfold lsK; simp), if_neg (by omega), if_pos ⟨hcp, by rw [mfX_one]; unfold mfB; simp⟩]
  rw [eC, hs1] at CK
  have HB2 : Hid (Below w.heap.size w w2) := hb2
  have HX2' : Hid (B2 w.heap.size (.slice adx (z 0) cax) (.slice adt (z (m - 1)) cat) w2) := HX2
  have hLK : lsK true = 1 := rfl
  rw [hLK] at CK ⊢
  have x0 := HX1.c0
  have x1 := HX1.c1
  clear HX1 HX2 hb1 hb2 hE2 eC hz hcp nS nP nX nT hp hTab hS' hP
  generalize gdX true z m P x t = lx at *
  generalize gdC true z m P x t = cd at *
  generalize z 0 = z0 at *
  generalize z (m - 1) = zl at *
  go_enter Tryz.func15, Tryz.ntmps15
  go_wp2_with fail
  rw [← hw1, ← hw2]
  refine CK.mono ?_
  rintro e w3 ⟨rfl, h3⟩
  have HB3 : Hid (Below w.heap.size w w3) := bchain HB2.out h3
  have HX3 : Hid (B2 w.heap.size (.slice adx z0 cax) (.slice adt zl cat) w3) := HX2'.out.later h3
  clear hw1 hw2 CK h3 HB2 HX2' x0 x1 hs1
  go_upto_region 4 with fail
  have HB4 : Hid (Below w.heap.size w w3.drew) := HB3.out.drew
  have HX4 := HX3.out.later (Below.refl _ w3).drew
  refine wp_region_held_drew (S := fun W' => W'.cell? ⟨w.heap.size, 0, none⟩ = some (.slice adx z0 cax) ∧ W'.cell? ⟨w.heap.size, 1, none⟩ = some (.slice adt zl cat)) (by kernel_rfl) ⟨HX4.c0, HX4.c1⟩ (fun HS => ?_)
  generalize w3.drew = wd at *
  clear HX4 HX3 HB3
  refine wpAnyH_take (i := 0) (v := ?v1) rfl (by kernel_rfl) (by kernel_rfl) (by kernel_rfl) (fun _ _ _ h => h) (Or.inl ⟨by kernel_rfl, ?h1⟩) HS ?r1
  case h1 => (rintro w ⟨e0, e1⟩; go_simp) <;> with_reducible rfl
  try simp only [Act.put, List.getElem_toArray, List.getElem_cons_succ, List.getElem_cons_zero, List.setIfInBounds_toArray, List.set_cons_zero, List.set_cons_succ]
  refine wpAnyH_take (i := 1) (v := ?v2) rfl (by kernel_rfl) (by kernel_rfl) (by kernel_rfl) (fun _ _ _ h => h) (Or.inl ⟨by kernel_rfl, ?h2⟩) HS ?r2
  case h2 => (rintro w ⟨e0, e1⟩; go_simp) <;> with_reducible rfl
  try simp only [Act.put, List.getElem_toArray, List.getElem_cons_succ, List.getElem_cons_zero, List.setIfInBounds_toArray, List.set_cons_zero, List.set_cons_succ]
  refine wpAnyH_take (i := 3) (v := ?v3) rfl (by kernel_rfl) (by kernel_rfl) (by kernel_rfl) (fun _ _ _ h => h) (Or.inl ⟨by kernel_rfl, ?h3⟩) HS ?r3
  case h3 => (rintro w ⟨e0, e1⟩; go_simp) <;> with_reducible rfl
  try simp only [Act.put, List.getElem_toArray, List.getElem_cons_succ, List.getElem_cons_zero, List.setIfInBounds_toArray, List.set_cons_zero, List.set_cons_succ]
  refine wpAnyH_take (i := 4) (v := ?v4) rfl (by kernel_rfl) (by kernel_rfl) (by kernel_rfl) (fun _ _ _ h => h) (Or.inl ⟨by kernel_rfl, ?h4⟩) HS ?r4
  case h4 => (rintro w ⟨e0, e1⟩; go_simp) <;> with_reducible rfl
  try simp only [Act.put, List.getElem_toArray, List.getElem_cons_succ, List.getElem_cons_zero, List.setIfInBounds_toArray, List.set_cons_zero, List.set_cons_succ]
  refine wpAnyH_take (i := 5) (v := ?v5) rfl (by kernel_rfl) (by kernel_rfl) (by kernel_rfl) (fun _ _ _ h => h) (Or.inl ⟨by kernel_rfl, ?h5⟩) HS ?r5
  case h5 => (rintro w ⟨e0, e1⟩; go_simp) <;> with_reducible rfl
  try simp only [Act.put, List.getElem_toArray, List.getElem_cons_succ, List.getElem_cons_zero, List.setIfInBounds_toArray, List.set_cons_zero, List.set_cons_succ]
  refine wpAnyH_ready (rs := [2]) (by kernel_rfl) (by simp) ?_
  refine AllReadyH.cons rfl (fun K hK => ?_) AllReadyH.nil
  go_simp
  refine (measureOf_sq _).mono ?_
  rintro e wy ⟨rfl, hz⟩
  refine hK.out _ _ (by rw [hz]; exact HS) (fun HS => ?_)
  clear hK K
  subst hz
  refine wpAnyH_ready (rs := [6]) (by kernel_rfl) (by simp) ?_
  refine AllReadyH.cons rfl (fun K hK => ?_) AllReadyH.nil
  go_simp
  refine (HG.out _ HB4.out).mono ?_
  rintro e w5 ⟨g, rfl, hA5, hg5, h5⟩
  have nW : Nu w.heap.size p := HUp.out.lt (Nat.le_refl _)
  refine hK.out _ _ ⟨h5.cell nW HS.1, h5.cell nW HS.2⟩ (fun HS => ?_)
  clear hK K
  refine wpAnyH_take (i := 7) (v := ?v6) rfl (by kernel_rfl) (by kernel_rfl) (by kernel_rfl) (fun _ _ _ h => h) (Or.inl ⟨by kernel_rfl, ?h6⟩) HS ?r6
  case h6 => (rintro w ⟨e0, e1⟩; go_simp) <;> with_reducible rfl
  try simp only [Act.put, List.getElem_toArray, List.getElem_cons_succ, List.getElem_cons_zero, List.setIfInBounds_toArray, List.set_cons_zero, List.set_cons_succ]
  refine wpAnyH_take (i := 8) (v := ?v7) rfl (by kernel_rfl) (by kernel_rfl) (by kernel_rfl) (fun _ _ _ h => h) (Or.inl ⟨by kernel_rfl, ?h7⟩) HS ?r7
  case h7 => (rintro w ⟨e0, e1⟩; go_simp) <;> with_reducible rfl
  try simp only [Act.put, List.getElem_toArray, List.getElem_cons_succ, List.getElem_cons_zero, List.setIfInBounds_toArray, List.set_cons_zero, List.set_cons_succ]
  refine wpAnyH_take (i := 9) (v := ?v8) rfl (by kernel_rfl) (by kernel_rfl) (by kernel_rfl) (fun _ _ _ h => h) (Or.inl ⟨by kernel_rfl, ?h8⟩) HS ?r8
  case h8 => (rintro w ⟨e0, e1⟩; go_simp) <;> with_reducible rfl
  try simp only [Act.put, List.getElem_toArray, List.getElem_cons_succ, List.getElem_cons_zero, List.setIfInBounds_toArray, List.set_cons_zero, List.set_cons_succ]
  refine wpAnyH_take (i := 10) (v := ?v9) rfl (by kernel_rfl) (by kernel_rfl) (by kernel_rfl) (fun _ _ _ h => h) (Or.inl ⟨by kernel_rfl, ?h9⟩) HS ?r9
  case h9 => (rintro w ⟨e0, e1⟩; go_simp) <;> with_reducible rfl
  try simp only [Act.put, List.getElem_toArray, List.getElem_cons_succ, List.getElem_cons_zero, List.setIfInBounds_toArray, List.set_cons_zero, List.set_cons_succ]
  refine wpAnyH_take (i := 11) (v := ?v10) rfl (by kernel_rfl) (by kernel_rfl) (by kernel_rfl) (fun _ _ _ h => h) (Or.inl ⟨by kernel_rfl, ?h10⟩) HS ?r10
  case h10 => (rintro w ⟨e0, e1⟩; go_simp) <;> with_reducible rfl
  try simp only [Act.put, List.getElem_toArray, List.getElem_cons_succ, List.getElem_cons_zero, List.setIfInBounds_toArray, List.set_cons_zero, List.set_cons_succ]
  refine wpAnyH_done (by kernel_rfl) ?_ _
  have HQ : Hid (Ar w5 (.slice (some ⟨g, 0, none⟩) cp cp) cp (gdG true z m P x t) ∧ w.heap.size ≤ g ∧ Ux p (c + cd) w w5) := ⟨hA5, by have := HB4.out.size; omega, (HUp.out.ux HB4.out).chain h5⟩
  clear HS hA5 h5 HB4 HG
  go_wp2
  go_ret3
  exact ⟨g, rfl, HQ.out.1, HQ.out.2.1, HQ.out.2.2⟩
set_option maxRecDepth 100000 in
set_option maxHeartbeats 8000000 in
theorem pGrad_hg (vs vx vt : Value) (m b o cp cap : Nat) (z : Nat → Nat) (P x t : Nat → Int) (p : Option Addr) (c : Int) (c0 : 0 ≤ c) (c1 : c ≤ 500000000) (w : World) (hS : Ar w vs m (fun i => ((z i : Nat) : Int))) (hP : Ar w (.slice (some ⟨b, o, none⟩) cp cap) cp P) (hX : Ar w vx (z 0) x) (hT : Ar w vt (z (m - 1)) t) (hz : Szs z m) (hcp : cp = fsN z (m - 1)) (nS : Nv vs p) (nP : Nu b p) (nX : Nv vx p) (nT : Nv vt p) (hp : Up p c w) (hTab : TabAt w) :
    Calls Tryz.prog 15 #[.pointer p, .int .i64 (lsK false), vs, .slice (some ⟨b, o, none⟩) cp cap, .agg #[vx, vt]] w fun e w' => ∃ g, e = .returned (.tuple #[.slice (some ⟨g, 0, none⟩) cp cp, .int .i64 (gdX false z m P x t), .int .i64 0]) ∧ Ar w' (.slice (some ⟨g, 0, none⟩) cp cp) cp (gdG false z m P x t) ∧ w.heap.size ≤ g ∧ Ux p (c + gdC false z m P x t) w w' := by
  have HG : Hid (∀ W : World, Below w.heap.size w W → Calls Tryz.prog 17 #[.pointer p, .iface 91 (.agg #[]), vs, .slice (some ⟨b, o, none⟩) cp cap, .agg #[vx, vt]] W fun e w' => ∃ g, e = .returned (.tuple #[.slice (some ⟨g, 0, none⟩) cp cp, .int .i64 (gdX false z m P x t)]) ∧ Ar w' (.slice (some ⟨g, 0, none⟩) cp cp) cp (gdG false z m P x t) ∧ W.heap.size ≤ g ∧ Ux p (c + gdC false z m P x t) W w') := fun W hb => gradient_hg vs vx vt m b o cp cap z P x t p c c0 c1 W (hS.later hb) (hP.later hb) (hX.later hb) (hT.later hb) hz hcp nS nP nX nT (hp.later hb) (hTab.later hb)
  have HUp : Hid (Up p c w) := hp
  have hS' := hS
  obtain ⟨ads, cas, bs, os, rfl, -, -, -, -⟩ := hS
  obtain ⟨adx, cax, bx, ox, rfl, -, -, -, -⟩ := hX
  obtain ⟨adt, cat, bt, ot, rfl, -, -, -, -⟩ := hT
  obtain ⟨w1, hw1⟩ : ∃ w1, w1 = w.alloc (.cells #[.slice adx (z 0) cax, .slice adt (z (m - 1)) cat] 42) := ⟨_, rfl⟩
  have hb1 : Below w.heap.size w w1 := by rw [hw1]; exact bel1 _ _
  have HX1 : B2 w.heap.size (.slice adx (z 0) cax) (.slice adt (z (m - 1)) cat) w1 := by rw [hw1]; exact B2.new w _ _ _
  have hs1 : w1.heap.size = w.heap.size + 1 := by rw [hw1, World.size_alloc]
  obtain ⟨w2, hw2⟩ : ∃ w2, w2 = w1.alloc (.cells #[.slice adx (z 0) cax, .slice adt (z (m - 1)) cat] 42) := ⟨_, rfl⟩
  have hb2 : Below w.heap.size w w2 := by rw [hw2]; exact bchain hb1 (bel1 _ _)
  have HX2 : B2 w.heap.size (.slice adx (z 0) cax) (.slice adt (z (m - 1)) cat) w2 := by rw [hw2]; exact HX1.later (bel1 _ _)
  have hE2 : Exl w2 (.slice (some ⟨w1.heap.size, 0, none⟩) 1 1) 1 (fun _ => z 0) (fun _ => z (m - 1)) := by rw [hw2]; exact exl_one w1 _ _ _ _ _ _
  have CK := check_any7 (lsK false) (.slice ads m cas) (.slice (some ⟨b, o, none⟩) cp cap) _ m cp 1 z P _ _ w2 (hS'.later hb2) (hP.later hb2) hE2 hz
  have eC : chE (lsK false) 1 cp (fsN z (m - 1)) (mfX (z 0) (z (m - 1)) (fun _ => z 0) (fun _ => z (m - 1)) 1) = 0 := by
    unfold chE
    rw [if_pos (by unfold lsK; simp), if_neg (by omega), if_pos ⟨hcp, by rw [mfX_one]; unfold mfB; simp⟩]
  rw [eC, hs1] at CK
  have HB2 : Hid (Below w.heap.size w w2) := hb2
  have HX2' : Hid (B2 w.heap.size (.slice adx (z 0) cax) (.slice adt (z (m - 1)) cat) w2) := HX2
  have hLK : lsK false = 2 := rfl
  rw [hLK] at CK ⊢
  have x0 := HX1.c0
  have x1 := HX1.c1
  clear HX1 HX2 hb1 hb2 hE2 eC hz hcp nS nP nX nT hp hTab hS' hP
  generalize gdX false z m P x t = lx at *
  generalize gdC false z m P x t = cd at *
  generalize z 0 = z0 at *
  generalize z (m - 1) = zl at *
  go_enter Tryz.func15, Tryz.ntmps15
  go_wp2_with fail
  rw [← hw1, ← hw2]
  refine CK.mono ?_
  rintro e w3 ⟨rfl, h3⟩
  have HB3 : Hid (Below w.heap.size w w3) := bchain HB2.out h3
  have HX3 : Hid (B2 w.heap.size (.slice adx z0 cax) (.slice adt zl cat) w3) := HX2'.out.later h3
  clear hw1 hw2 CK h3 HB2 HX2' x0 x1 hs1
  go_upto_region 4 with fail
  have HB4 : Hid (Below w.heap.size w w3.drew) := HB3.out.drew
  have HX4 := HX3.out.later (Below.refl _ w3).drew
  refine wp_region_held_drew (S := fun W' => W'.cell? ⟨w.heap.size, 0, none⟩ = some (.slice adx z0 cax) ∧ W'.cell? ⟨w.heap.size, 1, none⟩ = some (.slice adt zl cat)) (by kernel_rfl) ⟨HX4.c0, HX4.c1⟩ (fun HS => ?_)
  generalize w3.drew = wd at *
  clear HX4 HX3 HB3
  refine wpAnyH_take (i := 0) (v := ?v11) rfl (by kernel_rfl) (by kernel_rfl) (by kernel_rfl) (fun _ _ _ h => h) (Or.inl ⟨by kernel_rfl, ?h11⟩) HS ?r11
  case h11 => (rintro w ⟨e0, e1⟩; go_simp) <;> with_reducible rfl
  try simp only [Act.put, List.getElem_toArray, List.getElem_cons_succ, List.getElem_cons_zero, List.setIfInBounds_toArray, List.set_cons_zero, List.set_cons_succ]
  refine wpAnyH_take (i := 1) (v := ?v12) rfl (by kernel_rfl) (by kernel_rfl) (by kernel_rfl) (fun _ _ _ h => h) (Or.inl ⟨by kernel_rfl, ?h12⟩) HS ?r12
  case h12 => (rintro w ⟨e0, e1⟩; go_simp) <;> with_reducible rfl
  try simp only [Act.put, List.getElem_toArray, List.getElem_cons_succ, List.getElem_cons_zero, List.setIfInBounds_toArray, List.set_cons_zero, List.set_cons_succ]
  refine wpAnyH_take (i := 3) (v := ?v13) rfl (by kernel_rfl) (by kernel_rfl) (by kernel_rfl) (fun _ _ _ h => h) (Or.inl ⟨by kernel_rfl, ?h13⟩) HS ?r13
  case h13 => (rintro w ⟨e0, e1⟩; go_simp) <;> with_reducible rfl
  try simp only [Act.put, List.getElem_toArray, List.getElem_cons_succ, List.getElem_cons_zero, List.setIfInBounds_toArray, List.set_cons_zero, List.set_cons_succ]
  refine wpAnyH_take (i := 4) (v := ?v14) rfl (by kernel_rfl) (by kernel_rfl) (by kernel_rfl) (fun _ _ _ h => h) (Or.inl ⟨by kernel_rfl, ?h14⟩) HS ?r14
  case h14 => (rintro w ⟨e0, e1⟩; go_simp) <;> with_reducible rfl
  try simp only [Act.put, List.getElem_toArray, List.getElem_cons_succ, List.getElem_cons_zero, List.setIfInBounds_toArray, List.set_cons_zero, List.set_cons_succ]
  refine wpAnyH_take (i := 5) (v := ?v15) rfl (by kernel_rfl) (by kernel_rfl) (by kernel_rfl) (fun _ _ _ h => h) (Or.inl ⟨by kernel_rfl, ?h15⟩) HS ?r15
  case h15 => (rintro w ⟨e0, e1⟩; go_simp) <;> with_reducible rfl
  try simp only [Act.put, List.getElem_toArray, List.getElem_cons_succ, List.getElem_cons_zero, List.setIfInBounds_toArray, List.set_cons_zero, List.set_cons_succ]
  refine wpAnyH_ready (rs := [2]) (by kernel_rfl) (by simp) ?_
  refine AllReadyH.cons rfl (fun K hK => ?_) AllReadyH.nil
  go_simp
  refine (measureOf_hg _).mono ?_
  rintro e wy ⟨rfl, hz⟩
  refine hK.out _ _ (by rw [hz]; exact HS) (fun HS => ?_)
  clear hK K
  subst hz
  refine wpAnyH_ready (rs := [6]) (by kernel_rfl) (by simp) ?_
  refine AllReadyH.cons rfl (fun K hK => ?_) AllReadyH.nil
  go_simp
  refine (HG.out _ HB4.out).mono ?_
  rintro e w5 ⟨g, rfl, hA5, hg5, h5⟩
  have nW : Nu w.heap.size p := HUp.out.lt (Nat.le_refl _)
  refine hK.out _ _ ⟨h5.cell nW HS.1, h5.cell nW HS.2⟩ (fun HS => ?_)
  clear hK K
  refine wpAnyH_take (i := 7) (v := ?v16) rfl (by kernel_rfl) (by kernel_rfl) (by kernel_rfl) (fun _ _ _ h => h) (Or.inl ⟨by kernel_rfl, ?h16⟩) HS ?r16
  case h16 => (rintro w ⟨e0, e1⟩; go_simp) <;> with_reducible rfl
  try simp only [Act.put, List.getElem_toArray, List.getElem_cons_succ, List.getElem_cons_zero, List.setIfInBounds_toArray, List.set_cons_zero, List.set_cons_succ]
  refine wpAnyH_take (i := 8) (v := ?v17) rfl (by kernel_rfl) (by kernel_rfl) (by kernel_rfl) (fun _ _ _ h => h) (Or.inl ⟨by kernel_rfl, ?h17⟩) HS ?r17
  case h17 => (rintro w ⟨e0, e1⟩; go_simp) <;> with_reducible rfl
  try simp only [Act.put, List.getElem_toArray, List.getElem_cons_succ, List.getElem_cons_zero, List.setIfInBounds_toArray, List.set_cons_zero, List.set_cons_succ]
  refine wpAnyH_take (i := 9) (v := ?v18) rfl (by kernel_rfl) (by kernel_rfl) (by kernel_rfl) (fun _ _ _ h => h) (Or.inl ⟨by kernel_rfl, ?h18⟩) HS ?r18
  case h18 => (rintro w ⟨e0, e1⟩; go_simp) <;> with_reducible rfl
  try simp only [Act.put, List.getElem_toArray, List.getElem_cons_succ, List.getElem_cons_zero, List.setIfInBounds_toArray, List.set_cons_zero, List.set_cons_succ]
  refine wpAnyH_take (i := 10) (v := ?v19) rfl (by kernel_rfl) (by kernel_rfl) (by kernel_rfl) (fun _ _ _ h => h) (Or.inl ⟨by kernel_rfl, ?h19⟩) HS ?r19
  case h19 => (rintro w ⟨e0, e1⟩; go_simp) <;> with_reducible rfl
  try simp only [Act.put, List.getElem_toArray, List.getElem_cons_succ, List.getElem_cons_zero, List.setIfInBounds_toArray, List.set_cons_zero, List.set_cons_succ]
  refine wpAnyH_take (i := 11) (v := ?v20) rfl (by kernel_rfl) (by kernel_rfl) (by kernel_rfl) (fun _ _ _ h => h) (Or.inl ⟨by kernel_rfl, ?h20⟩) HS ?r20
  case h20 => (rintro w ⟨e0, e1⟩; go_simp) <;> with_reducible rfl
  try simp only [Act.put, List.getElem_toArray, List.getElem_cons_succ, List.getElem_cons_zero, List.setIfInBounds_toArray, List.set_cons_zero, List.set_cons_succ]
  refine wpAnyH_done (by kernel_rfl) ?_ _
  have HQ : Hid (Ar w5 (.slice (some ⟨g, 0, none⟩) cp cp) cp (gdG false z m P x t) ∧ w.heap.size ≤ g ∧ Ux p (c + cd) w w5) := ⟨hA5, by have := HB4.out.size; omega, (HUp.out.ux HB4.out).chain h5⟩
  clear HS hA5 h5 HB4 HG
  go_wp2
  go_ret3
  exact ⟨g, rfl, HQ.out.1, HQ.out.2.1, HQ.out.2.2⟩
set_option maxRecDepth 100000 in
set_option maxHeartbeats 4000000 in
theorem pGrad_bad (L E : Int) (vs vp vx vt : Value) (lx lt : Nat) (x t : Nat → Int) (p : Option Addr) (w : World) (hS : ∃ (ad : Option Addr) (n ca : Nat), vs = .slice ad n ca) (hP : ∃ (ad : Option Addr) (n ca : Nat), vp = .slice ad n ca) (hX : Ar w vx lx x) (hT : Ar w vt lt t) (hE0 : ¬ E = 0)
    (CK : ∀ (W : World) (vE : Value), Below w.heap.size w W → Exl W vE 1 (fun _ => lx) (fun _ => lt) → Calls Tryz.prog 16 #[.int .i64 L, vs, vp, vE] W fun e w' => e = .returned (.int .i64 E) ∧ Below W.heap.size W w') :
    Calls Tryz.prog 15 #[.pointer p, .int .i64 L, vs, vp, .agg #[vx, vt]] w fun e w' => e = .returned (.tuple #[.slice none 0 0, .int .i64 0, .int .i64 E]) ∧ Below w.heap.size w w' := by
  obtain ⟨ads, ms, cas, rfl⟩ := hS
  obtain ⟨adp, mp, cap, rfl⟩ := hP
  obtain ⟨adx, cax, bx, ox, rfl, -, -, -, -⟩ := hX
  obtain ⟨adt, cat, bt, ot, rfl, -, -, -, -⟩ := hT
  obtain ⟨w1, hw1⟩ : ∃ w1, w1 = w.alloc (.cells #[.slice adx lx cax, .slice adt lt cat] 42) := ⟨_, rfl⟩
  have hb1 : Below w.heap.size w w1 := by rw [hw1]; exact bel1 _ _
  have HX1 : B2 w.heap.size (.slice adx lx cax) (.slice adt lt cat) w1 := by rw [hw1]; exact B2.new w _ _ _
  have hs1 : w1.heap.size = w.heap.size + 1 := by rw [hw1, World.size_alloc]
  obtain ⟨w2, hw2⟩ : ∃ w2, w2 = w1.alloc (.cells #[.slice adx lx cax, .slice adt lt cat] 42) := ⟨_, rfl⟩
  have HB2 : Hid (Below w.heap.size w w2) := by rw [hw2]; exact bchain hb1 (bel1 _ _)
  have hE2 : Exl w2 (.slice (some ⟨w1.heap.size, 0, none⟩) 1 1) 1 (fun _ => lx) (fun _ => lt) := by rw [hw2]; exact exl_one w1 _ _ _ _ _ _
  have CC := CK w2 _ HB2.out hE2
  rw [hs1] at CC
  have x0 := HX1.c0
  have x1 := HX1.c1
  clear HX1 hb1 hE2 CK
  go_enter Tryz.func15, Tryz.ntmps15
  go_wp2_with fail
  rw [← hw1, ← hw2]
  refine CC.mono ?_
  rintro e w3 ⟨rfl, h3⟩
  have HB3 : Hid (Below w.heap.size w w3) := bchain HB2.out h3
  clear hw1 hw2 CC h3 HB2 x0 x1 hs1
  go_wp2
  go_ret3
  exact ⟨rfl, HB3.out⟩
theorem pGrad_ok (s : Bool) (vs vp vx vt : Value) (m cp : Nat) (z : Nat → Nat) (P x t : Nat → Int) (p : Option Addr) (c : Int) (c0 : 0 ≤ c) (c1 : c ≤ 500000000) (w : World) (hS : Ar w vs m (fun i => ((z i : Nat) : Int))) (hP : Ar w vp cp P) (hX : Ar w vx (z 0) x) (hT : Ar w vt (z (m - 1)) t) (hz : Szs z m) (hcp : cp = fsN z (m - 1)) (nS : Nv vs p) (nP : Nv vp p) (nX : Nv vx p) (nT : Nv vt p) (hp : Up p c w) (hTab : TabAt w) :
    Calls Tryz.prog 15 #[.pointer p, .int .i64 (lsK s), vs, vp, .agg #[vx, vt]] w fun e w' => ∃ g, e = .returned (.tuple #[.slice (some ⟨g, 0, none⟩) cp cp, .int .i64 (gdX s z m P x t), .int .i64 0]) ∧ Ar w' (.slice (some ⟨g, 0, none⟩) cp cp) cp (gdG s z m P x t) ∧ w.heap.size ≤ g ∧ Ux p (c + gdC s z m P x t) w w' := by
  have hcp2 : 0 < cp := by have h1 := fsN_mono z (show 1 ≤ m - 1 by have := hz.1; omega); have h2 := (lyN_le z m 0 hz.2.2 (by have := hz.1; omega)).2; have h3 : fsN z 1 = 0 + lyN z 0 := rfl; omega
  obtain ⟨b, o, cap, rfl⟩ := hP.lit hcp2
  cases s
  · exact pGrad_hg vs vx vt m b o cp cap z P x t p c c0 c1 w hS hP hX hT hz hcp nS (nP.nu hcp2) nX nT hp hTab
  · exact pGrad_sq vs vx vt m b o cp cap z P x t p c c0 c1 w hS hP hX hT hz hcp nS (nP.nu hcp2) nX nT hp hTab
theorem Ar.sl {w : World} {v : Value} {n : Nat} {f : Nat → Int} (h : Ar w v n f) : ∃ (ad : Option Addr) (k ca : Nat), v = .slice ad k ca := by
  obtain ⟨adr, cap, b, o, e, -, -, -, -⟩ := h
  exact ⟨adr, n, cap, e⟩
theorem pGrad_err (L : Int) (vs vp vx vt : Value) (m lp lx lt : Nat) (f P x t : Nat → Int) (z : Nat → Nat) (E : Int) (p : Option Addr) (w : World) (hA : Ar w vs m f) (hP : Ar w vp lp P) (hX : Ar w vx lx x) (hT : Ar w vt lt t) (hf : ∀ i, i < m → Rt f m → f i = ((z i : Nat) : Int)) (hE : rfE f m lp lx lt L (fsN z (m - 1)) (z 0) (z (m - 1)) E) (hE0 : E ≠ 0) :
    Calls Tryz.prog 15 #[.pointer p, .int .i64 L, vs, vp, .agg #[vx, vt]] w fun e w' => e = .returned (.tuple #[.slice none 0 0, .int .i64 0, .int .i64 E]) ∧ Below w.heap.size w w' := by
  refine pGrad_bad L E vs vp vx vt lx lt x t p w hA.sl hP.sl hX hT hE0 (fun W vE hb hEx => ?_)
  by_cases hr : Rt f m
  · obtain ⟨m2, m6, hsz⟩ := hr
    have hz : Szs z m := ⟨m2, m6, fun i hi => by have h1 := hsz i hi; have h2 := hf i hi ⟨m2, m6, hsz⟩; omega⟩
    have hC := check_any7 L vs vp vE m lp 1 z P _ _ W ((hA.later hb).congr (fun k hk => hf k hk ⟨m2, m6, hsz⟩)) (hP.later hb) hEx hz
    have e : chE L 1 lp (fsN z (m - 1)) (mfX (z 0) (z (m - 1)) (fun _ => lx) (fun _ => lt) 1) = E := by
      unfold chE
      rw [mfX_one]
      by_cases hL : L = 1 ∨ L = 2
      · rw [if_pos hL, if_neg (by omega)]
        by_cases hfit : lp = fsN z (m - 1) ∧ lx = z 0 ∧ lt = z (m - 1)
        · exact absurd (hE.2.2.2 ⟨m2, m6, hsz⟩ hL hfit) hE0
        · rw [hE.2.2.1 ⟨m2, m6, hsz⟩ hL hfit, if_neg]
          rintro ⟨h1, h2⟩
          unfold mfB at h2
          simp at h2
          exact hfit ⟨h1, h2.1, h2.2⟩
      · rw [if_neg hL, hE.2.1 ⟨m2, m6, hsz⟩ hL]
    rw [e] at hC
    exact hC
  · have hC := check_sz L vs vp vE m lp 1 f P _ _ W (hA.later hb) (hP.later hb) hEx hr
    rw [hE.1 hr]
    exact hC.mono fun e w' h => ⟨h.1, by rw [h.2]; exact Below.refl _ _⟩
theorem mlp4 : Mlp4 where
  gradU := fun s vs vp vx vt m cp z P x t d c w c0 c1 hS hP hX hT hz hcp nS nP nX nT hU hV => (pGrad_ok s vs vp vx vt m cp z P x t _ c c0 (by omega) w hS hP hX hT hz hcp (nv_some nS) (nv_some nP) (nv_some nX) (nv_some nT) (up_some hU) hV).mono fun e w' ⟨g, h1, h2, h3, h4⟩ => ⟨_, h1, h2, fun a n cap e _ => by cases e; exact h3, ux_un h4⟩
  gradN := fun s vs vp vx vt m cp z P x t w hS hP hX hT hz hcp hV => (pGrad_ok s vs vp vx vt m cp z P x t none 0 (by omega) (by omega) w hS hP hX hT hz hcp (nv_none _) (nv_none _) (nv_none _) (nv_none _) (Or.inl rfl) hV).mono fun e w' ⟨g, h1, h2, h3, h4⟩ => ⟨_, h1, h2, fun a n cap e _ => by cases e; exact h3, ux_nil h4⟩
  gradE := fun L vs vp vx vt m lp lx lt f P x t z E d c w hm hA hP hX hT hf hE hE0 hU hV => (pGrad_err L vs vp vx vt m lp lx lt f P x t z E _ w hA hP hX hT hf hE hE0).mono fun e w' h => ⟨_, h.1, ⟨none, 0, rfl⟩, (Un.same hU.1 hU.2).ahead h.2⟩
end Go.Proofs.YtcaficenocblfaaGreatDoor
