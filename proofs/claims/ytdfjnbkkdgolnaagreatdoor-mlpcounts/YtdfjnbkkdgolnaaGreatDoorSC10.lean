/-
  Texts of this proof, joined: NWalkL NWalkM NWalkN NWalkQ NWalkR.
-/
import Derived.Test.YtdfjnbkkdgolnaaGreatDoorSC03
import Derived.Test.YtdfjnbkkdgolnaaGreatDoorSC04
import Derived.Test.YtdfjnbkkdgolnaaGreatDoorSC08
import Derived.Test.YtdfjnbkkdgolnaaGreatDoorSC09
set_option linter.unusedVariables false
set_option linter.unusedSimpArgs false
namespace Go.Proofs.YtdfjnbkkdgolnaaGreatDoor
open Go.RowKit

/-- Does an example not fit? -/
def mfB (z0 zl lx lt : Nat) : Bool := decide (lx ≠ z0) || decide (lt ≠ zl)
set_option maxRecDepth 100000 in
set_option maxHeartbeats 4000000 in
theorem misfit1_any (bs os m cas bb z0 zl lx lt : Nat) (adx adt : Option Addr) (cax cat : Nat) (hm : 1 ≤ m) (hm2 : m ≤ 6) (w : World) (hb : w.cell? ⟨bb, 0, none⟩ = some (.slice (some ⟨bs, os, none⟩) m cas)) (h0 : w.cell? ⟨bs, os, none⟩ = some (.int .i64 (z0 : Int))) (hl : w.cell? ⟨bs, os + (m - 1), none⟩ = some (.int .i64 (zl : Int))) :
    Calls Tryz.prog 109 #[.agg #[.slice adx lx cax, .slice adt lt cat], .pointer (some ⟨bb, 0, none⟩)] w fun e w' => e = .returned (.bool (mfB z0 zl lx lt)) ∧ Below w.heap.size w w' := by
  obtain ⟨w1, hw1⟩ : ∃ w1, w1 = w.alloc (.cells #[.slice adx lx cax, .slice adt lt cat] 74) := ⟨_, rfl⟩
  have hb1 : Below w.heap.size w w1 := by rw [hw1]; exact bel1 _ _
  have hbD : Below w.heap.size w w1.drew := hb1.drew
  have HX : B2 w.heap.size (.slice adx lx cax) (.slice adt lt cat) w1.drew := by rw [hw1]; exact (B2.new w _ _ _).later (Below.refl _ _).drew
  have x0 := HX.c0
  have x1 := HX.c1
  have y0 := cell_later hbD hb
  have y1 := cell_later hbD h0
  have y2 := cell_later hbD hl
  have HW : Hid (Below w.heap.size w w1.drew) := hbD
  have hmI : (0 : Int) < (m : Int) := by omega
  have hmN : 0 < m := by omega
  obtain ⟨n, hn⟩ : ∃ n, m - 1 = n := ⟨_, rfl⟩
  rw [hn] at y2
  have wm : IntKind.i64.wrap ((m : Int) - 1) = (n : Int) := by rw [IntKind.wrap_i64]; omega
  have hnI : (n : Int) < (m : Int) := by omega
  clear HX hb1 hbD hb h0 hl hn
  go_enter Tryz.func109, Tryz.ntmps109
  go_upto_region 1 with fail
  rw [← hw1]
  clear hw1
  by_cases hx : lx = z0
  · have hxI : (lx : Int) = (z0 : Int) := by omega
    refine wp_region_held_drew (S := fun W' => W'.cell? ⟨w.heap.size, 0, none⟩ = some (.slice adx lx cax) ∧ W'.cell? ⟨w.heap.size, 1, none⟩ = some (.slice adt lt cat) ∧ W'.cell? ⟨bb, 0, none⟩ = some (.slice (some ⟨bs, os, none⟩) m cas) ∧ W'.cell? ⟨bs, os, none⟩ = some (.int .i64 (z0 : Int)) ∧ W'.cell? ⟨bs, os + n, none⟩ = some (.int .i64 (zl : Int))) (by kernel_rfl) ⟨x0, x1, y0, y1, y2⟩ (fun HS => ?_)
    generalize w1.drew = wd at *
    subst hx
    refine wpAnyH_take (i := 0) (v := ?v1) rfl (by kernel_rfl) (by kernel_rfl) (by kernel_rfl) (fun _ _ _ h => h) (Or.inl ⟨by kernel_rfl, ?h1⟩) HS ?r1
    case h1 => (rintro w ⟨e0, e1, e2, e3, e4⟩; go_simp) <;> with_reducible rfl
    try simp only [Act.put, List.getElem_toArray, List.getElem_cons_succ, List.getElem_cons_zero, List.setIfInBounds_toArray, List.set_cons_zero, List.set_cons_succ]
    refine wpAnyH_take (i := 1) (v := ?v2) rfl (by kernel_rfl) (by kernel_rfl) (by kernel_rfl) (fun _ _ _ h => h) (Or.inl ⟨by kernel_rfl, ?h2⟩) HS ?r2
    case h2 => (rintro w ⟨e0, e1, e2, e3, e4⟩; go_simp) <;> with_reducible rfl
    try simp only [Act.put, List.getElem_toArray, List.getElem_cons_succ, List.getElem_cons_zero, List.setIfInBounds_toArray, List.set_cons_zero, List.set_cons_succ]
    refine wpAnyH_take (i := 2) (v := ?v3) rfl (by kernel_rfl) (by kernel_rfl) (by kernel_rfl) (fun _ _ _ h => h) (Or.inl ⟨by kernel_rfl, ?h3⟩) HS ?r3
    case h3 => (rintro w ⟨e0, e1, e2, e3, e4⟩; go_simp) <;> with_reducible rfl
    try simp only [Act.put, List.getElem_toArray, List.getElem_cons_succ, List.getElem_cons_zero, List.setIfInBounds_toArray, List.set_cons_zero, List.set_cons_succ]
    refine wpAnyH_take (i := 3) (v := ?v4) rfl (by kernel_rfl) (by kernel_rfl) (by kernel_rfl) (fun _ _ _ h => h) (Or.inl ⟨by kernel_rfl, ?h4⟩) HS ?r4
    case h4 => (rintro w ⟨e0, e1, e2, e3, e4⟩; go_simp) <;> with_reducible rfl
    try simp only [Act.put, List.getElem_toArray, List.getElem_cons_succ, List.getElem_cons_zero, List.setIfInBounds_toArray, List.set_cons_zero, List.set_cons_succ]
    refine wpAnyH_take (i := 4) (v := ?v5) rfl (by kernel_rfl) (by kernel_rfl) (by kernel_rfl) (fun _ _ _ h => h) (Or.inl ⟨by kernel_rfl, ?h5⟩) HS ?r5
    case h5 => (rintro w ⟨e0, e1, e2, e3, e4⟩; go_simp) <;> with_reducible rfl
    try simp only [Act.put, List.getElem_toArray, List.getElem_cons_succ, List.getElem_cons_zero, List.setIfInBounds_toArray, List.set_cons_zero, List.set_cons_succ]
    refine wpAnyH_take (i := 5) (v := ?v6) rfl (by kernel_rfl) (by kernel_rfl) (by kernel_rfl) (fun _ _ _ h => h) (Or.inl ⟨by kernel_rfl, ?h6⟩) HS ?r6
    case h6 => (rintro w ⟨e0, e1, e2, e3, e4⟩; go_simp) <;> with_reducible rfl
    try simp only [Act.put, List.getElem_toArray, List.getElem_cons_succ, List.getElem_cons_zero, List.setIfInBounds_toArray, List.set_cons_zero, List.set_cons_succ]
    refine wpAnyH_take (i := 6) (v := ?v7) rfl (by kernel_rfl) (by kernel_rfl) (by kernel_rfl) (fun _ _ _ h => h) (Or.inl ⟨by kernel_rfl, ?h7⟩) HS ?r7
    case h7 => (rintro w ⟨e0, e1, e2, e3, e4⟩; go_simp) <;> with_reducible rfl
    try simp only [Act.put, List.getElem_toArray, List.getElem_cons_succ, List.getElem_cons_zero, List.setIfInBounds_toArray, List.set_cons_zero, List.set_cons_succ]
    refine wpAnyH_take (i := 7) (v := ?v8) rfl (by kernel_rfl) (by kernel_rfl) (by kernel_rfl) (fun _ _ _ h => h) (Or.inl ⟨by kernel_rfl, ?h8⟩) HS ?r8
    case h8 => (rintro w ⟨e0, e1, e2, e3, e4⟩; go_simp) <;> with_reducible rfl
    try simp only [Act.put, List.getElem_toArray, List.getElem_cons_succ, List.getElem_cons_zero, List.setIfInBounds_toArray, List.set_cons_zero, List.set_cons_succ]
    refine wpAnyH_take (i := 8) (v := ?v9) rfl (by kernel_rfl) (by kernel_rfl) (by kernel_rfl) (fun _ _ _ h => h) (Or.inl ⟨by kernel_rfl, ?h9⟩) HS ?r9
    case h9 => (rintro w ⟨e0, e1, e2, e3, e4⟩; go_simp) <;> with_reducible rfl
    try simp only [Act.put, List.getElem_toArray, List.getElem_cons_succ, List.getElem_cons_zero, List.setIfInBounds_toArray, List.set_cons_zero, List.set_cons_succ]
    refine wpAnyH_take (i := 9) (v := ?v10) rfl (by kernel_rfl) (by kernel_rfl) (by kernel_rfl) (fun _ _ _ h => h) (Or.inl ⟨by kernel_rfl, ?h10⟩) HS ?r10
    case h10 => (rintro w ⟨e0, e1, e2, e3, e4⟩; go_simp) <;> with_reducible rfl
    try simp only [Act.put, List.getElem_toArray, List.getElem_cons_succ, List.getElem_cons_zero, List.setIfInBounds_toArray, List.set_cons_zero, List.set_cons_succ]
    refine wpAnyH_take (i := 10) (v := ?v11) rfl (by kernel_rfl) (by kernel_rfl) (by kernel_rfl) (fun _ _ _ h => h) (Or.inl ⟨by kernel_rfl, ?h11⟩) HS ?r11
    case h11 => (rintro w ⟨e0, e1, e2, e3, e4⟩; go_simp) <;> with_reducible rfl
    try simp only [Act.put, List.getElem_toArray, List.getElem_cons_succ, List.getElem_cons_zero, List.setIfInBounds_toArray, List.set_cons_zero, List.set_cons_succ]
    refine wpAnyH_take (i := 11) (v := ?v12) rfl (by kernel_rfl) (by kernel_rfl) (by kernel_rfl) (fun _ _ _ h => h) (Or.inl ⟨by kernel_rfl, ?h12⟩) HS ?r12
    case h12 => (rintro w ⟨e0, e1, e2, e3, e4⟩; go_simp) <;> with_reducible rfl
    try simp only [Act.put, List.getElem_toArray, List.getElem_cons_succ, List.getElem_cons_zero, List.setIfInBounds_toArray, List.set_cons_zero, List.set_cons_succ]
    refine wpAnyH_take (i := 12) (v := ?v13) rfl (by kernel_rfl) (by kernel_rfl) (by kernel_rfl) (fun _ _ _ h => h) (Or.inl ⟨by kernel_rfl, ?h13⟩) HS ?r13
    case h13 => (rintro w ⟨e0, e1, e2, e3, e4⟩; go_simp) <;> with_reducible rfl
    try simp only [Act.put, List.getElem_toArray, List.getElem_cons_succ, List.getElem_cons_zero, List.setIfInBounds_toArray, List.set_cons_zero, List.set_cons_succ]
    refine wpAnyH_take (i := 13) (v := ?v14) rfl (by kernel_rfl) (by kernel_rfl) (by kernel_rfl) (fun _ _ _ h => h) (Or.inl ⟨by kernel_rfl, ?h14⟩) HS ?r14
    case h14 => (rintro w ⟨e0, e1, e2, e3, e4⟩; go_simp) <;> with_reducible rfl
    try simp only [Act.put, List.getElem_toArray, List.getElem_cons_succ, List.getElem_cons_zero, List.setIfInBounds_toArray, List.set_cons_zero, List.set_cons_succ]
    refine wpAnyH_take (i := 14) (v := ?v15) rfl (by kernel_rfl) (by kernel_rfl) (by kernel_rfl) (fun _ _ _ h => h) (Or.inl ⟨by kernel_rfl, ?h15⟩) HS ?r15
    case h15 => (rintro w ⟨e0, e1, e2, e3, e4⟩; go_simp) <;> with_reducible rfl
    try simp only [Act.put, List.getElem_toArray, List.getElem_cons_succ, List.getElem_cons_zero, List.setIfInBounds_toArray, List.set_cons_zero, List.set_cons_succ]
    refine wpAnyH_take (i := 15) (v := ?v16) rfl (by kernel_rfl) (by kernel_rfl) (by kernel_rfl) (fun _ _ _ h => h) (Or.inl ⟨by kernel_rfl, ?h16⟩) HS ?r16
    case h16 => (rintro w ⟨e0, e1, e2, e3, e4⟩; go_simp) <;> with_reducible rfl
    try simp only [Act.put, List.getElem_toArray, List.getElem_cons_succ, List.getElem_cons_zero, List.setIfInBounds_toArray, List.set_cons_zero, List.set_cons_succ]
    refine wpAnyH_take (i := 16) (v := ?v17) rfl (by kernel_rfl) (by kernel_rfl) (by kernel_rfl) (fun _ _ _ h => h) (Or.inl ⟨by kernel_rfl, ?h17⟩) HS ?r17
    case h17 => (rintro w ⟨e0, e1, e2, e3, e4⟩; go_simp) <;> with_reducible rfl
    try simp only [Act.put, List.getElem_toArray, List.getElem_cons_succ, List.getElem_cons_zero, List.setIfInBounds_toArray, List.set_cons_zero, List.set_cons_succ]
    refine wpAnyH_take (i := 17) (v := ?v18) rfl (by kernel_rfl) (by kernel_rfl) (by kernel_rfl) (fun _ _ _ h => h) (Or.inl ⟨by kernel_rfl, ?h18⟩) HS ?r18
    case h18 => (rintro w ⟨e0, e1, e2, e3, e4⟩; go_simp) <;> with_reducible rfl
    try simp only [Act.put, List.getElem_toArray, List.getElem_cons_succ, List.getElem_cons_zero, List.setIfInBounds_toArray, List.set_cons_zero, List.set_cons_succ]
    refine wpAnyH_take (i := 18) (v := ?v19) rfl (by kernel_rfl) (by kernel_rfl) (by kernel_rfl) (fun _ _ _ h => h) (Or.inl ⟨by kernel_rfl, ?h19⟩) HS ?r19
    case h19 => (rintro w ⟨e0, e1, e2, e3, e4⟩; go_simp) <;> with_reducible rfl
    try simp only [Act.put, List.getElem_toArray, List.getElem_cons_succ, List.getElem_cons_zero, List.setIfInBounds_toArray, List.set_cons_zero, List.set_cons_succ]
    refine wpAnyH_take (i := 19) (v := ?v20) rfl (by kernel_rfl) (by kernel_rfl) (by kernel_rfl) (fun _ _ _ h => h) (Or.inl ⟨by kernel_rfl, ?h20⟩) HS ?r20
    case h20 => (rintro w ⟨e0, e1, e2, e3, e4⟩; go_simp) <;> with_reducible rfl
    try simp only [Act.put, List.getElem_toArray, List.getElem_cons_succ, List.getElem_cons_zero, List.setIfInBounds_toArray, List.set_cons_zero, List.set_cons_succ]
    refine wpAnyH_done (by kernel_rfl) ?_ _
    by_cases ht : lt = zl
    · subst ht
      go_wp2
      go_ret
      exact ⟨by show Ending.returned (Value.bool _) = Ending.returned (Value.bool _); unfold mfB; simp, HW.out⟩
    · have htI : ¬ (lt : Int) = (zl : Int) := by omega
      go_wp2
      go_ret
      exact ⟨by show Ending.returned (Value.bool _) = Ending.returned (Value.bool _); unfold mfB; simp [ht, htI], HW.out⟩
  · have hxI : ¬ (lx : Int) = (z0 : Int) := by omega
    have hx2 : ((lx : Int) != (z0 : Int)) = true := by simp [hxI]
    refine wp_region_held_drew (S := fun W' => W'.cell? ⟨w.heap.size, 0, none⟩ = some (.slice adx lx cax) ∧ W'.cell? ⟨w.heap.size, 1, none⟩ = some (.slice adt lt cat) ∧ W'.cell? ⟨bb, 0, none⟩ = some (.slice (some ⟨bs, os, none⟩) m cas) ∧ W'.cell? ⟨bs, os, none⟩ = some (.int .i64 (z0 : Int)) ∧ W'.cell? ⟨bs, os + n, none⟩ = some (.int .i64 (zl : Int))) (by kernel_rfl) ⟨x0, x1, y0, y1, y2⟩ (fun HS => ?_)
    generalize w1.drew = wd at *
    refine wpAnyH_take (i := 0) (v := ?v21) rfl (by kernel_rfl) (by kernel_rfl) (by kernel_rfl) (fun _ _ _ h => h) (Or.inl ⟨by kernel_rfl, ?h21⟩) HS ?r21
    case h21 => (rintro w ⟨e0, e1, e2, e3, e4⟩; go_simp) <;> with_reducible rfl
    try simp only [Act.put, List.getElem_toArray, List.getElem_cons_succ, List.getElem_cons_zero, List.setIfInBounds_toArray, List.set_cons_zero, List.set_cons_succ]
    refine wpAnyH_take (i := 1) (v := ?v22) rfl (by kernel_rfl) (by kernel_rfl) (by kernel_rfl) (fun _ _ _ h => h) (Or.inl ⟨by kernel_rfl, ?h22⟩) HS ?r22
    case h22 => (rintro w ⟨e0, e1, e2, e3, e4⟩; go_simp) <;> with_reducible rfl
    try simp only [Act.put, List.getElem_toArray, List.getElem_cons_succ, List.getElem_cons_zero, List.setIfInBounds_toArray, List.set_cons_zero, List.set_cons_succ]
    refine wpAnyH_take (i := 2) (v := ?v23) rfl (by kernel_rfl) (by kernel_rfl) (by kernel_rfl) (fun _ _ _ h => h) (Or.inl ⟨by kernel_rfl, ?h23⟩) HS ?r23
    case h23 => (rintro w ⟨e0, e1, e2, e3, e4⟩; go_simp) <;> with_reducible rfl
    try simp only [Act.put, List.getElem_toArray, List.getElem_cons_succ, List.getElem_cons_zero, List.setIfInBounds_toArray, List.set_cons_zero, List.set_cons_succ]
    refine wpAnyH_take (i := 3) (v := ?v24) rfl (by kernel_rfl) (by kernel_rfl) (by kernel_rfl) (fun _ _ _ h => h) (Or.inl ⟨by kernel_rfl, ?h24⟩) HS ?r24
    case h24 => (rintro w ⟨e0, e1, e2, e3, e4⟩; go_simp) <;> with_reducible rfl
    try simp only [Act.put, List.getElem_toArray, List.getElem_cons_succ, List.getElem_cons_zero, List.setIfInBounds_toArray, List.set_cons_zero, List.set_cons_succ]
    refine wpAnyH_take (i := 4) (v := ?v25) rfl (by kernel_rfl) (by kernel_rfl) (by kernel_rfl) (fun _ _ _ h => h) (Or.inl ⟨by kernel_rfl, ?h25⟩) HS ?r25
    case h25 => (rintro w ⟨e0, e1, e2, e3, e4⟩; go_simp) <;> with_reducible rfl
    try simp only [Act.put, List.getElem_toArray, List.getElem_cons_succ, List.getElem_cons_zero, List.setIfInBounds_toArray, List.set_cons_zero, List.set_cons_succ]
    refine wpAnyH_take (i := 5) (v := ?v26) rfl (by kernel_rfl) (by kernel_rfl) (by kernel_rfl) (fun _ _ _ h => h) (Or.inl ⟨by kernel_rfl, ?h26⟩) HS ?r26
    case h26 => (rintro w ⟨e0, e1, e2, e3, e4⟩; go_simp) <;> with_reducible rfl
    try simp only [Act.put, List.getElem_toArray, List.getElem_cons_succ, List.getElem_cons_zero, List.setIfInBounds_toArray, List.set_cons_zero, List.set_cons_succ]
    refine wpAnyH_take (i := 6) (v := ?v27) rfl (by kernel_rfl) (by kernel_rfl) (by kernel_rfl) (fun _ _ _ h => h) (Or.inl ⟨by kernel_rfl, ?h27⟩) HS ?r27
    case h27 => (rintro w ⟨e0, e1, e2, e3, e4⟩; go_simp) <;> with_reducible rfl
    try simp only [Act.put, List.getElem_toArray, List.getElem_cons_succ, List.getElem_cons_zero, List.setIfInBounds_toArray, List.set_cons_zero, List.set_cons_succ]
    refine wpAnyH_take (i := 7) (v := ?v28) rfl (by kernel_rfl) (by kernel_rfl) (by kernel_rfl) (fun _ _ _ h => h) (Or.inl ⟨by kernel_rfl, ?h28⟩) HS ?r28
    case h28 => (rintro w ⟨e0, e1, e2, e3, e4⟩; go_simp) <;> with_reducible rfl
    try simp only [Act.put, List.getElem_toArray, List.getElem_cons_succ, List.getElem_cons_zero, List.setIfInBounds_toArray, List.set_cons_zero, List.set_cons_succ]
    refine wpAnyH_take (i := 8) (v := undef) rfl (by kernel_rfl) (by kernel_rfl) (by kernel_rfl) (fun _ _ _ h => h) (Or.inr ⟨by kernel_rfl, rfl⟩) HS ?_
    try simp only [Act.put, List.getElem_toArray, List.getElem_cons_succ, List.getElem_cons_zero, List.setIfInBounds_toArray, List.set_cons_zero, List.set_cons_succ]
    refine wpAnyH_take (i := 9) (v := undef) rfl (by kernel_rfl) (by kernel_rfl) (by kernel_rfl) (fun _ _ _ h => h) (Or.inr ⟨by kernel_rfl, rfl⟩) HS ?_
    try simp only [Act.put, List.getElem_toArray, List.getElem_cons_succ, List.getElem_cons_zero, List.setIfInBounds_toArray, List.set_cons_zero, List.set_cons_succ]
    refine wpAnyH_take (i := 10) (v := undef) rfl (by kernel_rfl) (by kernel_rfl) (by kernel_rfl) (fun _ _ _ h => h) (Or.inr ⟨by kernel_rfl, rfl⟩) HS ?_
    try simp only [Act.put, List.getElem_toArray, List.getElem_cons_succ, List.getElem_cons_zero, List.setIfInBounds_toArray, List.set_cons_zero, List.set_cons_succ]
    refine wpAnyH_take (i := 11) (v := undef) rfl (by kernel_rfl) (by kernel_rfl) (by kernel_rfl) (fun _ _ _ h => h) (Or.inr ⟨by kernel_rfl, rfl⟩) HS ?_
    try simp only [Act.put, List.getElem_toArray, List.getElem_cons_succ, List.getElem_cons_zero, List.setIfInBounds_toArray, List.set_cons_zero, List.set_cons_succ]
    refine wpAnyH_take (i := 12) (v := undef) rfl (by kernel_rfl) (by kernel_rfl) (by kernel_rfl) (fun _ _ _ h => h) (Or.inr ⟨by kernel_rfl, rfl⟩) HS ?_
    try simp only [Act.put, List.getElem_toArray, List.getElem_cons_succ, List.getElem_cons_zero, List.setIfInBounds_toArray, List.set_cons_zero, List.set_cons_succ]
    refine wpAnyH_take (i := 13) (v := undef) rfl (by kernel_rfl) (by kernel_rfl) (by kernel_rfl) (fun _ _ _ h => h) (Or.inr ⟨by kernel_rfl, rfl⟩) HS ?_
    try simp only [Act.put, List.getElem_toArray, List.getElem_cons_succ, List.getElem_cons_zero, List.setIfInBounds_toArray, List.set_cons_zero, List.set_cons_succ]
    refine wpAnyH_take (i := 14) (v := undef) rfl (by kernel_rfl) (by kernel_rfl) (by kernel_rfl) (fun _ _ _ h => h) (Or.inr ⟨by kernel_rfl, rfl⟩) HS ?_
    try simp only [Act.put, List.getElem_toArray, List.getElem_cons_succ, List.getElem_cons_zero, List.setIfInBounds_toArray, List.set_cons_zero, List.set_cons_succ]
    refine wpAnyH_take (i := 15) (v := undef) rfl (by kernel_rfl) (by kernel_rfl) (by kernel_rfl) (fun _ _ _ h => h) (Or.inr ⟨by kernel_rfl, rfl⟩) HS ?_
    try simp only [Act.put, List.getElem_toArray, List.getElem_cons_succ, List.getElem_cons_zero, List.setIfInBounds_toArray, List.set_cons_zero, List.set_cons_succ]
    refine wpAnyH_take (i := 16) (v := undef) rfl (by kernel_rfl) (by kernel_rfl) (by kernel_rfl) (fun _ _ _ h => h) (Or.inr ⟨by kernel_rfl, rfl⟩) HS ?_
    try simp only [Act.put, List.getElem_toArray, List.getElem_cons_succ, List.getElem_cons_zero, List.setIfInBounds_toArray, List.set_cons_zero, List.set_cons_succ]
    refine wpAnyH_take (i := 17) (v := undef) rfl (by kernel_rfl) (by kernel_rfl) (by kernel_rfl) (fun _ _ _ h => h) (Or.inr ⟨by kernel_rfl, rfl⟩) HS ?_
    try simp only [Act.put, List.getElem_toArray, List.getElem_cons_succ, List.getElem_cons_zero, List.setIfInBounds_toArray, List.set_cons_zero, List.set_cons_succ]
    refine wpAnyH_take (i := 18) (v := ?v29) rfl (by kernel_rfl) (by kernel_rfl) (by kernel_rfl) (fun _ _ _ h => h) (Or.inl ⟨by kernel_rfl, ?h29⟩) HS ?r29
    case h29 => (rintro w ⟨e0, e1, e2, e3, e4⟩; go_simp) <;> with_reducible rfl
    try simp only [Act.put, List.getElem_toArray, List.getElem_cons_succ, List.getElem_cons_zero, List.setIfInBounds_toArray, List.set_cons_zero, List.set_cons_succ]
    refine wpAnyH_take (i := 19) (v := ?v30) rfl (by kernel_rfl) (by kernel_rfl) (by kernel_rfl) (fun _ _ _ h => h) (Or.inl ⟨by kernel_rfl, ?h30⟩) HS ?r30
    case h30 => (rintro w ⟨e0, e1, e2, e3, e4⟩; go_simp) <;> with_reducible rfl
    try simp only [Act.put, List.getElem_toArray, List.getElem_cons_succ, List.getElem_cons_zero, List.setIfInBounds_toArray, List.set_cons_zero, List.set_cons_succ]
    refine wpAnyH_done (by kernel_rfl) ?_ _
    go_wp2
    go_ret
    exact ⟨by show Ending.returned (Value.bool _) = Ending.returned (Value.bool _); unfold mfB; simp [hx, hxI], HW.out⟩
/-- Examples in memory: how long their lists are. -/
def Exl (w : World) (v : Value) (K : Nat) (nx nt : Nat → Nat) : Prop :=
  ∃ (adr : Option Addr) (cap be oe : Nat), v = .slice adr K cap ∧ K ≤ cap ∧ cap ≤ maxLen ∧ (0 < K → adr = some ⟨be, oe, none⟩) ∧ ∀ k, k < K → ∃ (adx adt : Option Addr) (cax cat : Nat), w.cell? ⟨be, oe + k * 2, none⟩ = some (.slice adx (nx k) cax) ∧ w.cell? ⟨be, oe + k * 2 + 1, none⟩ = some (.slice adt (nt k) cat)
def mfX (z0 zl : Nat) (nx nt : Nat → Nat) (K : Nat) : Bool := (List.range K).any (fun k => mfB z0 zl (nx k) (nt k))
theorem mfX_yes {z0 zl : Nat} {nx nt : Nat → Nat} {K k : Nat} (hk : k < K) (h : mfB z0 zl (nx k) (nt k) = true) : mfX z0 zl nx nt K = true := List.any_eq_true.2 ⟨k, List.mem_range.2 hk, h⟩
theorem mfX_no {z0 zl : Nat} {nx nt : Nat → Nat} {K : Nat} (h : ∀ k, k < K → mfB z0 zl (nx k) (nt k) = false) : mfX z0 zl nx nt K = false := by
  rw [Bool.eq_false_iff]
  intro e
  obtain ⟨k, hk, h2⟩ := List.any_eq_true.1 e
  rw [h k (List.mem_range.1 hk)] at h2
  cases h2
set_option maxRecDepth 100000 in
set_option maxHeartbeats 4000000 in
theorem indexE_any (v : Value) (K : Nat) (nx nt : Nat → Nat) (bs os m cas bb z0 zl : Nat) (hm : 1 ≤ m) (hm2 : m ≤ 6) (w : World) (hE : Exl w v K nx nt) (hb : w.cell? ⟨bb, 0, none⟩ = some (.slice (some ⟨bs, os, none⟩) m cas)) (h0 : w.cell? ⟨bs, os, none⟩ = some (.int .i64 (z0 : Int))) (hl : w.cell? ⟨bs, os + (m - 1), none⟩ = some (.int .i64 (zl : Int))) :
    Calls Tryz.prog 108 #[v, .func (.func 109) #[] #[.pointer (some ⟨bb, 0, none⟩)]] w fun e w' => ∃ i : Int, e = .returned (.int .i64 i) ∧ (mfX z0 zl nx nt K = true → 0 ≤ i) ∧ (mfX z0 zl nx nt K = false → i < 0) ∧ Below w.heap.size w w' := by
  obtain ⟨adr, cap, be, oe, rfl, k1, k2, k3, k4⟩ := hE
  unfold maxLen at k2
  have HC : Hid (∀ k, k < K → ∃ (adx adt : Option Addr) (cax cat : Nat), w.cell? ⟨be, oe + k * 2, none⟩ = some (.slice adx (nx k) cax) ∧ w.cell? ⟨be, oe + k * 2 + 1, none⟩ = some (.slice adt (nt k) cat)) := k4
  have HK : Hid (0 < K → adr = some ⟨be, oe, none⟩) := k3
  have HCl : Hid (∀ (W : World) (lx lt : Nat) (adx adt : Option Addr) (cax cat : Nat), Below w.heap.size w W → Calls Tryz.prog 109 #[.agg #[.slice adx lx cax, .slice adt lt cat], .pointer (some ⟨bb, 0, none⟩)] W fun e w' => e = .returned (.bool (mfB z0 zl lx lt)) ∧ Below W.heap.size W w') := fun W lx lt adx adt cax cat hB => misfit1_any bs os m cas bb z0 zl lx lt adx adt cax cat hm hm2 W (cell_later hB hb) (cell_later hB h0) (cell_later hB hl)
  clear k3 k4 hb h0 hl
  go_enter Tryz.func108, Tryz.ntmps108
  go_wp2
  go_loopw [8] (fun s8 wr => ∃ j : Nat, j ≤ K ∧ s8 = .int .i64 (j : Int) ∧ Hid (∀ k, k < j → mfB z0 zl (nx k) (nt k) = false) ∧ Hid (Below w.heap.size w wr)) (fun s8 _ => K - (intOf s8).toNat)
  case atStart => exact ⟨0, by omega, rfl, fun k hk => by omega, Below.refl _ _⟩
  case round =>
    obtain ⟨j, hj, rfl, hA, HW⟩ := hrel
    by_cases hlt : j < K
    · have hjI : (j : Int) < (K : Int) := by omega
      have ea := HK.out (by omega)
      subst ea
      obtain ⟨adx, adt, cax, cat, c0, c1⟩ := HC.out j hlt
      have d0 := cell_later HW.out c0
      have d1 := cell_later HW.out c1
      have CT := HCl.out wr (nx j) (nt j) adx adt cax cat HW.out
      clear c0 c1
      cases hb : mfB z0 zl (nx j) (nt j) with
      | true =>
        rw [hb] at CT
        have HF : Hid (mfX z0 zl nx nt K = true) := mfX_yes hlt hb
        clear hb hA
        go_wp2_with (go_at_call 109; refine CT.mono ?_; rintro e wz ⟨rfl, hz⟩; have HWz : Hid (Below w.heap.size w wz) := bchain HW.out hz; clear hz)
        go_ret
        exact ⟨_, rfl, fun _ => by omega, fun h => (by rw [HF.out] at h; cases h), HWz.out⟩
      | false =>
        rw [hb] at CT
        have HA2 : Hid (∀ k, k < j + 1 → mfB z0 zl (nx k) (nt k) = false) := fun k hk => by
          rcases Nat.lt_or_ge k j with h | h
          · exact hA.out k h
          · obtain rfl : k = j := by omega
            exact hb
        clear hb hA
        go_wp2_with (go_at_call 109; refine CT.mono ?_; rintro e wz ⟨rfl, hz⟩; have HWz : Hid (Below w.heap.size w wz) := bchain HW.out hz; clear hz)
        go_roundw
        case rel => exact ⟨j + 1, by omega, by go_num, HA2, HWz⟩
        case measure => simp [intOf]; omega
    · have HF : Hid (mfX z0 zl nx nt K = false) := mfX_no (fun k hk => hA.out k (by omega))
      have hjI : ¬ (j : Int) < (K : Int) := by omega
      clear hA
      go_wp2
      go_ret
      exact ⟨_, rfl, fun h => (by rw [HF.out] at h; cases h), fun _ => by omega, HW.out⟩
set_option maxHeartbeats 1000000 in
theorem containsE_any (v : Value) (K : Nat) (nx nt : Nat → Nat) (bs os m cas bb z0 zl : Nat) (hm : 1 ≤ m) (hm2 : m ≤ 6) (w : World) (hE : Exl w v K nx nt) (hb : w.cell? ⟨bb, 0, none⟩ = some (.slice (some ⟨bs, os, none⟩) m cas)) (h0 : w.cell? ⟨bs, os, none⟩ = some (.int .i64 (z0 : Int))) (hl : w.cell? ⟨bs, os + (m - 1), none⟩ = some (.int .i64 (zl : Int))) :
    Calls Tryz.prog 77 #[v, .func (.func 109) #[] #[.pointer (some ⟨bb, 0, none⟩)]] w fun e w' => e = .returned (.bool (mfX z0 zl nx nt K)) ∧ Below w.heap.size w w' := by
  have CI := indexE_any v K nx nt bs os m cas bb z0 zl hm hm2 w hE hb h0 hl
  obtain ⟨adr, cap, be, oe, rfl, -, -, -, -⟩ := hE
  clear hb h0 hl
  generalize mfX z0 zl nx nt K = B at *
  cases B
  · go_enter Tryz.func77, Tryz.ntmps77
    go_wp2_with fail
    refine CI.mono ?_
    rintro e wz ⟨i, rfl, -, h1, hz⟩
    have h2 : ¬ (0 : Int) ≤ i := by have := h1 (by trivial); omega
    clear CI h1
    go_wp2
    go_ret
    exact ⟨by simp [h2], hz⟩
  · go_enter Tryz.func77, Tryz.ntmps77
    go_wp2_with fail
    refine CI.mono ?_
    rintro e wz ⟨i, rfl, h1, -, hz⟩
    have h2 : (0 : Int) ≤ i := h1 (by trivial)
    clear CI h1
    go_wp2
    go_ret
    exact ⟨by simp [h2], hz⟩
end Go.Proofs.YtdfjnbkkdgolnaaGreatDoor
set_option linter.unusedVariables false
set_option linter.unusedSimpArgs false
namespace Go.Proofs.YtdfjnbkkdgolnaaGreatDoor
open Go.RowKit

set_option maxHeartbeats 1000000 in
theorem misfit_any (ads : Option Addr) (m cas : Nat) (w : World) :
    Calls Tryz.prog 78 #[.slice ads m cas] w fun e w' => e = .returned (.func (.func 109) #[] #[.pointer (some ⟨w.heap.size, 0, none⟩)]) ∧ w'.cell? ⟨w.heap.size, 0, none⟩ = some (.slice ads m cas) ∧ Below w.heap.size w w' := by
  have hmf := hmf_any
  have HW : Hid (Below w.heap.size w (w.alloc (.cells #[.slice ads m cas] 22)) ∧ (w.alloc (.cells #[.slice ads m cas] 22)).cell? ⟨w.heap.size, 0, none⟩ = some (.slice ads m cas)) := ⟨bel1 _ _, cell_new1 _ _ _⟩
  go_enter Tryz.func78, Tryz.ntmps78
  go_wp2
  go_ret
  exact ⟨rfl, HW.out.2, HW.out.1⟩
set_option maxHeartbeats 2000000 in
theorem check_sz (L : Int) (vs vp vE : Value) (m lp K : Nat) (f P : Nat → Int) (nx nt : Nat → Nat) (w : World) (hA : Ar w vs m f) (hP : Ar w vp lp P) (hE : Exl w vE K nx nt) (hz : ¬ (2 ≤ m ∧ m ≤ 6 ∧ szB f m)) :
    Calls Tryz.prog 54 #[.int .i64 L, vs, vp, vE] w fun e w' => e = .returned (.int .i64 70) ∧ w' = w := by
  have CC := pCount_no vs m f w hA hz
  obtain ⟨ads, cas, bs, os, rfl, -, -, -, -⟩ := hA
  obtain ⟨adp, cpp, bp, op, rfl, -, -, -, -⟩ := hP
  obtain ⟨ade, cae, be, oe, rfl, -, -, -, -⟩ := hE
  clear hz
  go_enter Tryz.func54, Tryz.ntmps54
  go_wp2_with fail
  refine CC.mono ?_
  rintro e wz ⟨rfl, hz⟩
  subst hz
  clear CC
  go_wp2
  go_ret
  exact ⟨rfl, rfl⟩
/-- check's answer, sizes being right. -/
def chE (L : Int) (K lp cp : Nat) (mis : Bool) : Int := if L = 1 ∨ L = 2 then (if K < 1 ∨ 64 < K then 2 else if lp = cp ∧ mis = false then 0 else 40) else 71
set_option maxRecDepth 100000 in
set_option maxHeartbeats 4000000 in
theorem check_any7 (L : Int) (vs vp vE : Value) (m lp K : Nat) (z : Nat → Nat) (P : Nat → Int) (nx nt : Nat → Nat) (w : World) (hA : Ar w vs m (fun i => ((z i : Nat) : Int))) (hP : Ar w vp lp P) (hE : Exl w vE K nx nt) (hz : Szs z m) :
    Calls Tryz.prog 54 #[.int .i64 L, vs, vp, vE] w fun e w' => e = .returned (.int .i64 (chE L K lp (fsN z (m - 1)) (mfX (z 0) (z (m - 1)) nx nt K))) ∧ Below w.heap.size w w' := by
  have CC := pCount_yes vs m z w hA hz
  obtain ⟨m2, m6, -⟩ := hz
  obtain ⟨ads, cas, bs, os, rfl, a1, a2, a3, a4⟩ := hA
  have ea := a3 (by omega)
  subst ea
  have HCn : Hid (∀ (W : World) (bb : Nat), Below w.heap.size w W → W.cell? ⟨bb, 0, none⟩ = some (.slice (some ⟨bs, os, none⟩) m cas) → Calls Tryz.prog 77 #[vE, .func (.func 109) #[] #[.pointer (some ⟨bb, 0, none⟩)]] W fun e w' => e = .returned (.bool (mfX (z 0) (z (m - 1)) nx nt K)) ∧ Below W.heap.size W w') := fun W bb hB hc => by
    refine containsE_any vE K nx nt bs os m cas bb (z 0) (z (m - 1)) (by omega) m6 W ?_ hc (cell_later hB (a4 0 (by omega)).1) (cell_later hB (a4 (m - 1) (by omega)).1)
    obtain ⟨ade, cae, be, oe, e, b1, b2, b3, b4⟩ := hE
    exact ⟨ade, cae, be, oe, e, b1, b2, b3, fun k hk => by obtain ⟨p1, p2, p3, p4, p5, p6⟩ := b4 k hk; exact ⟨p1, p2, p3, p4, cell_later hB p5, cell_later hB p6⟩⟩
  have HMf : Hid (∀ W : World, Calls Tryz.prog 78 #[.slice (some ⟨bs, os, none⟩) m cas] W fun e w' => e = .returned (.func (.func 109) #[] #[.pointer (some ⟨W.heap.size, 0, none⟩)]) ∧ w'.cell? ⟨W.heap.size, 0, none⟩ = some (.slice (some ⟨bs, os, none⟩) m cas) ∧ Below W.heap.size W w') := fun W => misfit_any _ _ _ W
  have hB0 : Hid (Below w.heap.size w w) := Below.refl _ _
  obtain ⟨adp, cpp, bp, op, rfl, -, -, -, -⟩ := hP
  obtain ⟨ade, cae, be, oe, rfl, k1, k2, -, -⟩ := hE
  unfold maxLen at k2
  unfold chE
  generalize mfX (z 0) (z (m - 1)) nx nt K = mis at *
  generalize fsN z (m - 1) = cp at *
  clear a3 a4
  by_cases hL1 : L = 1 ∨ L = 2
  · rw [if_pos hL1]
    by_cases hK : K < 1 ∨ 64 < K
    · rw [if_pos hK]
      rcases hL1 with rfl | rfl
      · by_cases hK0 : K < 1
        · have hK1 : (K : Int) < 1 := by omega
          go_enter Tryz.func54, Tryz.ntmps54
          go_wp2_with fail
          refine CC.mono ?_
          rintro e wz ⟨rfl, hz⟩
          subst hz
          go_wp2_with fail
          refine (measureOf_sq wz).mono ?_
          rintro e wy ⟨rfl, hz⟩
          subst hz
          go_wp2
          go_ret
          exact ⟨rfl, hB0.out⟩
        · have hK1 : ¬ (K : Int) < 1 := by omega
          have hK2 : (64 : Int) < (K : Int) := by omega
          go_enter Tryz.func54, Tryz.ntmps54
          go_wp2_with fail
          refine CC.mono ?_
          rintro e wz ⟨rfl, hz⟩
          subst hz
          go_wp2_with fail
          refine (measureOf_sq wz).mono ?_
          rintro e wy ⟨rfl, hz⟩
          subst hz
          go_wp2
          go_ret
          exact ⟨rfl, hB0.out⟩
      · by_cases hK0 : K < 1
        · have hK1 : (K : Int) < 1 := by omega
          go_enter Tryz.func54, Tryz.ntmps54
          go_wp2_with fail
          refine CC.mono ?_
          rintro e wz ⟨rfl, hz⟩
          subst hz
          go_wp2_with fail
          refine (measureOf_hg wz).mono ?_
          rintro e wy ⟨rfl, hz⟩
          subst hz
          go_wp2
          go_ret
          exact ⟨rfl, hB0.out⟩
        · have hK1 : ¬ (K : Int) < 1 := by omega
          have hK2 : (64 : Int) < (K : Int) := by omega
          go_enter Tryz.func54, Tryz.ntmps54
          go_wp2_with fail
          refine CC.mono ?_
          rintro e wz ⟨rfl, hz⟩
          subst hz
          go_wp2_with fail
          refine (measureOf_hg wz).mono ?_
          rintro e wy ⟨rfl, hz⟩
          subst hz
          go_wp2
          go_ret
          exact ⟨rfl, hB0.out⟩
    · rw [if_neg hK]
      have hK1 : ¬ (K : Int) < 1 := by omega
      have hK2 : ¬ (64 : Int) < (K : Int) := by omega
      by_cases hlp : lp = cp
      · cases mis
        · rw [if_pos ⟨hlp, rfl⟩]
          subst hlp
          rcases hL1 with rfl | rfl
          · skip
            go_enter Tryz.func54, Tryz.ntmps54
            go_wp2_with fail
            refine CC.mono ?_
            rintro e wz ⟨rfl, hz⟩
            subst hz
            go_wp2_with fail
            refine (measureOf_sq wz).mono ?_
            rintro e wy ⟨rfl, hz⟩
            subst hz
            go_wp2_with fail
            refine (HMf.out _).mono ?_
            rintro e w3 ⟨rfl, hc3, h3⟩
            have CN := HCn.out w3 _ h3 hc3
            have HB3 : Hid (Below _ _ w3) := h3
            clear h3 hc3
            go_wp2_with fail
            refine CN.mono ?_
            rintro e w4 ⟨rfl, h4⟩
            have HB4 : Hid (Below _ _ w4) := bchain HB3.out h4
            clear h4 CN HB3
            go_wp2
            go_ret
            exact ⟨rfl, HB4.out⟩
          · skip
            go_enter Tryz.func54, Tryz.ntmps54
            go_wp2_with fail
            refine CC.mono ?_
            rintro e wz ⟨rfl, hz⟩
            subst hz
            go_wp2_with fail
            refine (measureOf_hg wz).mono ?_
            rintro e wy ⟨rfl, hz⟩
            subst hz
            go_wp2_with fail
            refine (HMf.out _).mono ?_
            rintro e w3 ⟨rfl, hc3, h3⟩
            have CN := HCn.out w3 _ h3 hc3
            have HB3 : Hid (Below _ _ w3) := h3
            clear h3 hc3
            go_wp2_with fail
            refine CN.mono ?_
            rintro e w4 ⟨rfl, h4⟩
            have HB4 : Hid (Below _ _ w4) := bchain HB3.out h4
            clear h4 CN HB3
            go_wp2
            go_ret
            exact ⟨rfl, HB4.out⟩
        · rw [if_neg (by simp)]
          subst hlp
          rcases hL1 with rfl | rfl
          · skip
            go_enter Tryz.func54, Tryz.ntmps54
            go_wp2_with fail
            refine CC.mono ?_
            rintro e wz ⟨rfl, hz⟩
            subst hz
            go_wp2_with fail
            refine (measureOf_sq wz).mono ?_
            rintro e wy ⟨rfl, hz⟩
            subst hz
            go_wp2_with fail
            refine (HMf.out _).mono ?_
            rintro e w3 ⟨rfl, hc3, h3⟩
            have CN := HCn.out w3 _ h3 hc3
            have HB3 : Hid (Below _ _ w3) := h3
            clear h3 hc3
            go_wp2_with fail
            refine CN.mono ?_
            rintro e w4 ⟨rfl, h4⟩
            have HB4 : Hid (Below _ _ w4) := bchain HB3.out h4
            clear h4 CN HB3
            go_wp2
            go_ret
            exact ⟨rfl, HB4.out⟩
          · skip
            go_enter Tryz.func54, Tryz.ntmps54
            go_wp2_with fail
            refine CC.mono ?_
            rintro e wz ⟨rfl, hz⟩
            subst hz
            go_wp2_with fail
            refine (measureOf_hg wz).mono ?_
            rintro e wy ⟨rfl, hz⟩
            subst hz
            go_wp2_with fail
            refine (HMf.out _).mono ?_
            rintro e w3 ⟨rfl, hc3, h3⟩
            have CN := HCn.out w3 _ h3 hc3
            have HB3 : Hid (Below _ _ w3) := h3
            clear h3 hc3
            go_wp2_with fail
            refine CN.mono ?_
            rintro e w4 ⟨rfl, h4⟩
            have HB4 : Hid (Below _ _ w4) := bchain HB3.out h4
            clear h4 CN HB3
            go_wp2
            go_ret
            exact ⟨rfl, HB4.out⟩
      · rw [if_neg (fun h => hlp h.1)]
        have hlpI : ¬ (lp : Int) = (cp : Int) := by omega
        rcases hL1 with rfl | rfl
        · skip
          go_enter Tryz.func54, Tryz.ntmps54
          go_wp2_with fail
          refine CC.mono ?_
          rintro e wz ⟨rfl, hz⟩
          subst hz
          go_wp2_with fail
          refine (measureOf_sq wz).mono ?_
          rintro e wy ⟨rfl, hz⟩
          subst hz
          go_wp2
          go_ret
          exact ⟨rfl, hB0.out⟩
        · skip
          go_enter Tryz.func54, Tryz.ntmps54
          go_wp2_with fail
          refine CC.mono ?_
          rintro e wz ⟨rfl, hz⟩
          subst hz
          go_wp2_with fail
          refine (measureOf_hg wz).mono ?_
          rintro e wy ⟨rfl, hz⟩
          subst hz
          go_wp2
          go_ret
          exact ⟨rfl, hB0.out⟩
  · rw [if_neg hL1]
    have h1 : ¬ L = 1 := fun h => hL1 (Or.inl h)
    have h2 : ¬ L = 2 := fun h => hL1 (Or.inr h)
    clear hL1
    go_enter Tryz.func54, Tryz.ntmps54
    go_wp2_with fail
    refine CC.mono ?_
    rintro e wz ⟨rfl, hz⟩
    subst hz
    go_wp2_with fail
    refine (measureOf_no L h1 h2 wz).mono ?_
    rintro e wy ⟨rfl, hz⟩
    subst hz
    go_wp2
    go_ret
    exact ⟨rfl, hB0.out⟩
end Go.Proofs.YtdfjnbkkdgolnaaGreatDoor
set_option linter.unusedVariables false
set_option linter.unusedSimpArgs false
namespace Go.Proofs.YtdfjnbkkdgolnaaGreatDoor
open Go.RowKit

theorem exl_one (w : World) (adx adt : Option Addr) (lx lt cax cat : Nat) : Exl (w.alloc (.cells #[.slice adx lx cax, .slice adt lt cat] 74)) (.slice (some ⟨w.heap.size, 0, none⟩) 1 1) 1 (fun _ => lx) (fun _ => lt) := by
  have h := B2.new w (.slice adx lx cax) (.slice adt lt cat) 74
  exact ⟨_, 1, w.heap.size, 0, rfl, Nat.le_refl _, by unfold maxLen; omega, fun _ => rfl, fun k hk => by obtain rfl : k = 0 := (by omega); exact ⟨adx, adt, cax, cat, h.c0, h.c1⟩⟩
theorem mfX_one (z0 zl lx lt : Nat) : mfX z0 zl (fun _ => lx) (fun _ => lt) 1 = mfB z0 zl lx lt := by
  unfold mfX
  simp [List.range_succ]
theorem Ar.lit {w : World} {v : Value} {n : Nat} {f : Nat → Int} (h : Ar w v n f) (hn : 0 < n) : ∃ b o cap, v = .slice (some ⟨b, o, none⟩) n cap := by
  obtain ⟨adr, cap, b, o, e, -, -, h4, -⟩ := h
  exact ⟨b, o, cap, by rw [e, h4 hn]⟩
set_option maxRecDepth 100000 in
set_option maxHeartbeats 8000000 in
theorem pGrad_sq (vs vx vt : Value) (m b o cp cap : Nat) (z : Nat → Nat) (P x t : Nat → Int) (p : Option Addr) (c : Int) (c0 : 0 ≤ c) (c1 : c ≤ 500000000) (w : World) (hS : Ar w vs m (fun i => ((z i : Nat) : Int))) (hP : Ar w (.slice (some ⟨b, o, none⟩) cp cap) cp P) (hX : Ar w vx (z 0) x) (hT : Ar w vt (z (m - 1)) t) (hz : Szs z m) (hcp : cp = fsN z (m - 1)) (nS : Nv vs p) (nP : Nu b p) (nX : Nv vx p) (nT : Nv vt p) (hp : Up p c w) (hTab : TabAt w) :
    Calls Tryz.prog 30 #[.pointer p, .int .i64 (lsK true), vs, .slice (some ⟨b, o, none⟩) cp cap, .agg #[vx, vt]] w fun e w' => ∃ g, e = .returned (.tuple #[.slice (some ⟨g, 0, none⟩) cp cp, .int .i64 (gdX true z m P x t), .int .i64 0]) ∧ Ar w' (.slice (some ⟨g, 0, none⟩) cp cp) cp (gdG true z m P x t) ∧ w.heap.size ≤ g ∧ Ux p (c + gdC true z m P x t) w w' := by
  have HG : Hid (∀ W : World, Below w.heap.size w W → Calls Tryz.prog 55 #[.pointer p, .iface 146 (.agg #[]), vs, .slice (some ⟨b, o, none⟩) cp cap, .agg #[vx, vt]] W fun e w' => ∃ g, e = .returned (.tuple #[.slice (some ⟨g, 0, none⟩) cp cp, .int .i64 (gdX true z m P x t)]) ∧ Ar w' (.slice (some ⟨g, 0, none⟩) cp cp) cp (gdG true z m P x t) ∧ W.heap.size ≤ g ∧ Ux p (c + gdC true z m P x t) W w') := fun W hb => gradient_sq vs vx vt m b o cp cap z P x t p c c0 c1 W (hS.later hb) (hP.later hb) (hX.later hb) (hT.later hb) hz hcp nS nP nX nT (hp.later hb) (hTab.later hb)
  have HUp : Hid (Up p c w) := hp
  have hS' := hS
  obtain ⟨ads, cas, bs, os, rfl, -, -, -, -⟩ := hS
  obtain ⟨adx, cax, bx, ox, rfl, -, -, -, -⟩ := hX
  obtain ⟨adt, cat, bt, ot, rfl, -, -, -, -⟩ := hT
  obtain ⟨w1, hw1⟩ : ∃ w1, w1 = w.alloc (.cells #[.slice adx (z 0) cax, .slice adt (z (m - 1)) cat] 74) := ⟨_, rfl⟩
  have hb1 : Below w.heap.size w w1 := by rw [hw1]; exact bel1 _ _
  have HX1 : B2 w.heap.size (.slice adx (z 0) cax) (.slice adt (z (m - 1)) cat) w1 := by rw [hw1]; exact B2.new w _ _ _
  have hs1 : w1.heap.size = w.heap.size + 1 := by rw [hw1, World.size_alloc]
  obtain ⟨w2, hw2⟩ : ∃ w2, w2 = w1.alloc (.cells #[.slice adx (z 0) cax, .slice adt (z (m - 1)) cat] 74) := ⟨_, rfl⟩
  have hb2 : Below w.heap.size w w2 := by rw [hw2]; exact bchain hb1 (bel1 _ _)
  have HX2 : B2 w.heap.size (.slice adx (z 0) cax) (.slice adt (z (m - 1)) cat) w2 := by rw [hw2]; exact HX1.later (bel1 _ _)
  have hE2 : Exl w2 (.slice (some ⟨w1.heap.size, 0, none⟩) 1 1) 1 (fun _ => z 0) (fun _ => z (m - 1)) := by rw [hw2]; exact exl_one w1 _ _ _ _ _ _
  have CK := check_any7 (lsK true) (.slice ads m cas) (.slice (some ⟨b, o, none⟩) cp cap) _ m cp 1 z P _ _ w2 (hS'.later hb2) (hP.later hb2) hE2 hz
  have eC : chE (lsK true) 1 cp (fsN z (m - 1)) (mfX (z 0) (z (m - 1)) (fun _ => z 0) (fun _ => z (m - 1)) 1) = 0 := by
    unfold chE
    rw [if_pos (by unfold lsK; simp), if_neg (by omega), if_pos ⟨hcp, by rw [mfX_one]; unfold mfB; simp⟩]
  rw [eC, hs1] at CK
  have HB2 : Hid (Below w.heap.size w w2) := hb2
  have HX2' : Hid (B2 w.heap.size (.slice adx (z 0) cax) (.slice adt (z (m - 1)) cat) w2) := HX2
  have hLK : lsK true = 1 := rfl
  rw [hLK] at CK ⊢
  have x0 := HX1.c0
  have x1 := HX1.c1
  clear HX1 HX2 hb1 hb2 hE2 eC hz hcp nS nP nX nT hp hTab hS' hP
  generalize gdX true z m P x t = lx at *
  generalize gdC true z m P x t = cd at *
  generalize z 0 = z0 at *
  generalize z (m - 1) = zl at *
  go_enter Tryz.func30, Tryz.ntmps30
  go_wp2_with fail
  rw [← hw1, ← hw2]
  refine CK.mono ?_
  rintro e w3 ⟨rfl, h3⟩
  have HB3 : Hid (Below w.heap.size w w3) := bchain HB2.out h3
  have HX3 : Hid (B2 w.heap.size (.slice adx z0 cax) (.slice adt zl cat) w3) := HX2'.out.later h3
  clear hw1 hw2 CK h3 HB2 HX2' x0 x1 hs1
  go_upto_region 4 with fail
  have HB4 : Hid (Below w.heap.size w w3.drew) := HB3.out.drew
  have HX4 := HX3.out.later (Below.refl _ w3).drew
  refine wp_region_held_drew (S := fun W' => W'.cell? ⟨w.heap.size, 0, none⟩ = some (.slice adx z0 cax) ∧ W'.cell? ⟨w.heap.size, 1, none⟩ = some (.slice adt zl cat)) (by kernel_rfl) ⟨HX4.c0, HX4.c1⟩ (fun HS => ?_)
  generalize w3.drew = wd at *
  clear HX4 HX3 HB3
  refine wpAnyH_take (i := 0) (v := ?v1) rfl (by kernel_rfl) (by kernel_rfl) (by kernel_rfl) (fun _ _ _ h => h) (Or.inl ⟨by kernel_rfl, ?h1⟩) HS ?r1
  case h1 => (rintro w ⟨e0, e1⟩; go_simp) <;> with_reducible rfl
  try simp only [Act.put, List.getElem_toArray, List.getElem_cons_succ, List.getElem_cons_zero, List.setIfInBounds_toArray, List.set_cons_zero, List.set_cons_succ]
  refine wpAnyH_take (i := 1) (v := ?v2) rfl (by kernel_rfl) (by kernel_rfl) (by kernel_rfl) (fun _ _ _ h => h) (Or.inl ⟨by kernel_rfl, ?h2⟩) HS ?r2
  case h2 => (rintro w ⟨e0, e1⟩; go_simp) <;> with_reducible rfl
  try simp only [Act.put, List.getElem_toArray, List.getElem_cons_succ, List.getElem_cons_zero, List.setIfInBounds_toArray, List.set_cons_zero, List.set_cons_succ]
  refine wpAnyH_take (i := 3) (v := ?v3) rfl (by kernel_rfl) (by kernel_rfl) (by kernel_rfl) (fun _ _ _ h => h) (Or.inl ⟨by kernel_rfl, ?h3⟩) HS ?r3
  case h3 => (rintro w ⟨e0, e1⟩; go_simp) <;> with_reducible rfl
  try simp only [Act.put, List.getElem_toArray, List.getElem_cons_succ, List.getElem_cons_zero, List.setIfInBounds_toArray, List.set_cons_zero, List.set_cons_succ]
  refine wpAnyH_take (i := 4) (v := ?v4) rfl (by kernel_rfl) (by kernel_rfl) (by kernel_rfl) (fun _ _ _ h => h) (Or.inl ⟨by kernel_rfl, ?h4⟩) HS ?r4
  case h4 => (rintro w ⟨e0, e1⟩; go_simp) <;> with_reducible rfl
  try simp only [Act.put, List.getElem_toArray, List.getElem_cons_succ, List.getElem_cons_zero, List.setIfInBounds_toArray, List.set_cons_zero, List.set_cons_succ]
  refine wpAnyH_take (i := 5) (v := ?v5) rfl (by kernel_rfl) (by kernel_rfl) (by kernel_rfl) (fun _ _ _ h => h) (Or.inl ⟨by kernel_rfl, ?h5⟩) HS ?r5
  case h5 => (rintro w ⟨e0, e1⟩; go_simp) <;> with_reducible rfl
  try simp only [Act.put, List.getElem_toArray, List.getElem_cons_succ, List.getElem_cons_zero, List.setIfInBounds_toArray, List.set_cons_zero, List.set_cons_succ]
  refine wpAnyH_ready (rs := [2]) (by kernel_rfl) (by simp) ?_
  refine AllReadyH.cons rfl (fun K hK => ?_) AllReadyH.nil
  go_simp
  refine (measureOf_sq _).mono ?_
  rintro e wy ⟨rfl, hz⟩
  refine hK.out _ _ (by rw [hz]; exact HS) (fun HS => ?_)
  clear hK K
  subst hz
  refine wpAnyH_ready (rs := [6]) (by kernel_rfl) (by simp) ?_
  refine AllReadyH.cons rfl (fun K hK => ?_) AllReadyH.nil
  go_simp
  refine (HG.out _ HB4.out).mono ?_
  rintro e w5 ⟨g, rfl, hA5, hg5, h5⟩
  have nW : Nu w.heap.size p := HUp.out.lt (Nat.le_refl _)
  refine hK.out _ _ ⟨h5.cell nW HS.1, h5.cell nW HS.2⟩ (fun HS => ?_)
  clear hK K
  refine wpAnyH_take (i := 7) (v := ?v6) rfl (by kernel_rfl) (by kernel_rfl) (by kernel_rfl) (fun _ _ _ h => h) (Or.inl ⟨by kernel_rfl, ?h6⟩) HS ?r6
  case h6 => (rintro w ⟨e0, e1⟩; go_simp) <;> with_reducible rfl
  try simp only [Act.put, List.getElem_toArray, List.getElem_cons_succ, List.getElem_cons_zero, List.setIfInBounds_toArray, List.set_cons_zero, List.set_cons_succ]
  refine wpAnyH_take (i := 8) (v := ?v7) rfl (by kernel_rfl) (by kernel_rfl) (by kernel_rfl) (fun _ _ _ h => h) (Or.inl ⟨by kernel_rfl, ?h7⟩) HS ?r7
  case h7 => (rintro w ⟨e0, e1⟩; go_simp) <;> with_reducible rfl
  try simp only [Act.put, List.getElem_toArray, List.getElem_cons_succ, List.getElem_cons_zero, List.setIfInBounds_toArray, List.set_cons_zero, List.set_cons_succ]
  refine wpAnyH_take (i := 9) (v := ?v8) rfl (by kernel_rfl) (by kernel_rfl) (by kernel_rfl) (fun _ _ _ h => h) (Or.inl ⟨by kernel_rfl, ?h8⟩) HS ?r8
  case h8 => (rintro w ⟨e0, e1⟩; go_simp) <;> with_reducible rfl
  try simp only [Act.put, List.getElem_toArray, List.getElem_cons_succ, List.getElem_cons_zero, List.setIfInBounds_toArray, List.set_cons_zero, List.set_cons_succ]
  refine wpAnyH_take (i := 10) (v := ?v9) rfl (by kernel_rfl) (by kernel_rfl) (by kernel_rfl) (fun _ _ _ h => h) (Or.inl ⟨by kernel_rfl, ?h9⟩) HS ?r9
  case h9 => (rintro w ⟨e0, e1⟩; go_simp) <;> with_reducible rfl
  try simp only [Act.put, List.getElem_toArray, List.getElem_cons_succ, List.getElem_cons_zero, List.setIfInBounds_toArray, List.set_cons_zero, List.set_cons_succ]
  refine wpAnyH_take (i := 11) (v := ?v10) rfl (by kernel_rfl) (by kernel_rfl) (by kernel_rfl) (fun _ _ _ h => h) (Or.inl ⟨by kernel_rfl, ?h10⟩) HS ?r10
  case h10 => (rintro w ⟨e0, e1⟩; go_simp) <;> with_reducible rfl
  try simp only [Act.put, List.getElem_toArray, List.getElem_cons_succ, List.getElem_cons_zero, List.setIfInBounds_toArray, List.set_cons_zero, List.set_cons_succ]
  refine wpAnyH_done (by kernel_rfl) ?_ _
  have HQ : Hid (Ar w5 (.slice (some ⟨g, 0, none⟩) cp cp) cp (gdG true z m P x t) ∧ w.heap.size ≤ g ∧ Ux p (c + cd) w w5) := ⟨hA5, by have := HB4.out.size; omega, (HUp.out.ux HB4.out).chain h5⟩
  clear HS hA5 h5 HB4 HG
  go_wp2
  go_ret3
  exact ⟨g, rfl, HQ.out.1, HQ.out.2.1, HQ.out.2.2⟩
set_option maxRecDepth 100000 in
set_option maxHeartbeats 8000000 in
theorem pGrad_hg (vs vx vt : Value) (m b o cp cap : Nat) (z : Nat → Nat) (P x t : Nat → Int) (p : Option Addr) (c : Int) (c0 : 0 ≤ c) (c1 : c ≤ 500000000) (w : World) (hS : Ar w vs m (fun i => ((z i : Nat) : Int))) (hP : Ar w (.slice (some ⟨b, o, none⟩) cp cap) cp P) (hX : Ar w vx (z 0) x) (hT : Ar w vt (z (m - 1)) t) (hz : Szs z m) (hcp : cp = fsN z (m - 1)) (nS : Nv vs p) (nP : Nu b p) (nX : Nv vx p) (nT : Nv vt p) (hp : Up p c w) (hTab : TabAt w) :
    Calls Tryz.prog 30 #[.pointer p, .int .i64 (lsK false), vs, .slice (some ⟨b, o, none⟩) cp cap, .agg #[vx, vt]] w fun e w' => ∃ g, e = .returned (.tuple #[.slice (some ⟨g, 0, none⟩) cp cp, .int .i64 (gdX false z m P x t), .int .i64 0]) ∧ Ar w' (.slice (some ⟨g, 0, none⟩) cp cp) cp (gdG false z m P x t) ∧ w.heap.size ≤ g ∧ Ux p (c + gdC false z m P x t) w w' := by
  have HG : Hid (∀ W : World, Below w.heap.size w W → Calls Tryz.prog 55 #[.pointer p, .iface 147 (.agg #[]), vs, .slice (some ⟨b, o, none⟩) cp cap, .agg #[vx, vt]] W fun e w' => ∃ g, e = .returned (.tuple #[.slice (some ⟨g, 0, none⟩) cp cp, .int .i64 (gdX false z m P x t)]) ∧ Ar w' (.slice (some ⟨g, 0, none⟩) cp cp) cp (gdG false z m P x t) ∧ W.heap.size ≤ g ∧ Ux p (c + gdC false z m P x t) W w') := fun W hb => gradient_hg vs vx vt m b o cp cap z P x t p c c0 c1 W (hS.later hb) (hP.later hb) (hX.later hb) (hT.later hb) hz hcp nS nP nX nT (hp.later hb) (hTab.later hb)
  have HUp : Hid (Up p c w) := hp
  have hS' := hS
  obtain ⟨ads, cas, bs, os, rfl, -, -, -, -⟩ := hS
  obtain ⟨adx, cax, bx, ox, rfl, -, -, -, -⟩ := hX
  obtain ⟨adt, cat, bt, ot, rfl, -, -, -, -⟩ := hT
  obtain ⟨w1, hw1⟩ : ∃ w1, w1 = w.alloc (.cells #[.slice adx (z 0) cax, .slice adt (z (m - 1)) cat] 74) := ⟨_, rfl⟩
  have hb1 : Below w.heap.size w w1 := by rw [hw1]; exact bel1 _ _
  have HX1 : B2 w.heap.size (.slice adx (z 0) cax) (.slice adt (z (m - 1)) cat) w1 := by rw [hw1]; exact B2.new w _ _ _
  have hs1 : w1.heap.size = w.heap.size + 1 := by rw [hw1, World.size_alloc]
  obtain ⟨w2, hw2⟩ : ∃ w2, w2 = w1.alloc (.cells #[.slice adx (z 0) cax, .slice adt (z (m - 1)) cat] 74) := ⟨_, rfl⟩
  have hb2 : Below w.heap.size w w2 := by rw [hw2]; exact bchain hb1 (bel1 _ _)
  have HX2 : B2 w.heap.size (.slice adx (z 0) cax) (.slice adt (z (m - 1)) cat) w2 := by rw [hw2]; exact HX1.later (bel1 _ _)
  have hE2 : Exl w2 (.slice (some ⟨w1.heap.size, 0, none⟩) 1 1) 1 (fun _ => z 0) (fun _ => z (m - 1)) := by rw [hw2]; exact exl_one w1 _ _ _ _ _ _
  have CK := check_any7 (lsK false) (.slice ads m cas) (.slice (some ⟨b, o, none⟩) cp cap) _ m cp 1 z P _ _ w2 (hS'.later hb2) (hP.later hb2) hE2 hz
  have eC : chE (lsK false) 1 cp (fsN z (m - 1)) (mfX (z 0) (z (m - 1)) (fun _ => z 0) (fun _ => z (m - 1)) 1) = 0 := by
    unfold chE
    rw [if_pos (by unfold lsK; simp), if_neg (by omega), if_pos ⟨hcp, by rw [mfX_one]; unfold mfB; simp⟩]
  rw [eC, hs1] at CK
  have HB2 : Hid (Below w.heap.size w w2) := hb2
  have HX2' : Hid (B2 w.heap.size (.slice adx (z 0) cax) (.slice adt (z (m - 1)) cat) w2) := HX2
  have hLK : lsK false = 2 := rfl
  rw [hLK] at CK ⊢
  have x0 := HX1.c0
  have x1 := HX1.c1
  clear HX1 HX2 hb1 hb2 hE2 eC hz hcp nS nP nX nT hp hTab hS' hP
  generalize gdX false z m P x t = lx at *
  generalize gdC false z m P x t = cd at *
  generalize z 0 = z0 at *
  generalize z (m - 1) = zl at *
  go_enter Tryz.func30, Tryz.ntmps30
  go_wp2_with fail
  rw [← hw1, ← hw2]
  refine CK.mono ?_
  rintro e w3 ⟨rfl, h3⟩
  have HB3 : Hid (Below w.heap.size w w3) := bchain HB2.out h3
  have HX3 : Hid (B2 w.heap.size (.slice adx z0 cax) (.slice adt zl cat) w3) := HX2'.out.later h3
  clear hw1 hw2 CK h3 HB2 HX2' x0 x1 hs1
  go_upto_region 4 with fail
  have HB4 : Hid (Below w.heap.size w w3.drew) := HB3.out.drew
  have HX4 := HX3.out.later (Below.refl _ w3).drew
  refine wp_region_held_drew (S := fun W' => W'.cell? ⟨w.heap.size, 0, none⟩ = some (.slice adx z0 cax) ∧ W'.cell? ⟨w.heap.size, 1, none⟩ = some (.slice adt zl cat)) (by kernel_rfl) ⟨HX4.c0, HX4.c1⟩ (fun HS => ?_)
  generalize w3.drew = wd at *
  clear HX4 HX3 HB3
  refine wpAnyH_take (i := 0) (v := ?v11) rfl (by kernel_rfl) (by kernel_rfl) (by kernel_rfl) (fun _ _ _ h => h) (Or.inl ⟨by kernel_rfl, ?h11⟩) HS ?r11
  case h11 => (rintro w ⟨e0, e1⟩; go_simp) <;> with_reducible rfl
  try simp only [Act.put, List.getElem_toArray, List.getElem_cons_succ, List.getElem_cons_zero, List.setIfInBounds_toArray, List.set_cons_zero, List.set_cons_succ]
  refine wpAnyH_take (i := 1) (v := ?v12) rfl (by kernel_rfl) (by kernel_rfl) (by kernel_rfl) (fun _ _ _ h => h) (Or.inl ⟨by kernel_rfl, ?h12⟩) HS ?r12
  case h12 => (rintro w ⟨e0, e1⟩; go_simp) <;> with_reducible rfl
  try simp only [Act.put, List.getElem_toArray, List.getElem_cons_succ, List.getElem_cons_zero, List.setIfInBounds_toArray, List.set_cons_zero, List.set_cons_succ]
  refine wpAnyH_take (i := 3) (v := ?v13) rfl (by kernel_rfl) (by kernel_rfl) (by kernel_rfl) (fun _ _ _ h => h) (Or.inl ⟨by kernel_rfl, ?h13⟩) HS ?r13
  case h13 => (rintro w ⟨e0, e1⟩; go_simp) <;> with_reducible rfl
  try simp only [Act.put, List.getElem_toArray, List.getElem_cons_succ, List.getElem_cons_zero, List.setIfInBounds_toArray, List.set_cons_zero, List.set_cons_succ]
  refine wpAnyH_take (i := 4) (v := ?v14) rfl (by kernel_rfl) (by kernel_rfl) (by kernel_rfl) (fun _ _ _ h => h) (Or.inl ⟨by kernel_rfl, ?h14⟩) HS ?r14
  case h14 => (rintro w ⟨e0, e1⟩; go_simp) <;> with_reducible rfl
  try simp only [Act.put, List.getElem_toArray, List.getElem_cons_succ, List.getElem_cons_zero, List.setIfInBounds_toArray, List.set_cons_zero, List.set_cons_succ]
  refine wpAnyH_take (i := 5) (v := ?v15) rfl (by kernel_rfl) (by kernel_rfl) (by kernel_rfl) (fun _ _ _ h => h) (Or.inl ⟨by kernel_rfl, ?h15⟩) HS ?r15
  case h15 => (rintro w ⟨e0, e1⟩; go_simp) <;> with_reducible rfl
  try simp only [Act.put, List.getElem_toArray, List.getElem_cons_succ, List.getElem_cons_zero, List.setIfInBounds_toArray, List.set_cons_zero, List.set_cons_succ]
  refine wpAnyH_ready (rs := [2]) (by kernel_rfl) (by simp) ?_
  refine AllReadyH.cons rfl (fun K hK => ?_) AllReadyH.nil
  go_simp
  refine (measureOf_hg _).mono ?_
  rintro e wy ⟨rfl, hz⟩
  refine hK.out _ _ (by rw [hz]; exact HS) (fun HS => ?_)
  clear hK K
  subst hz
  refine wpAnyH_ready (rs := [6]) (by kernel_rfl) (by simp) ?_
  refine AllReadyH.cons rfl (fun K hK => ?_) AllReadyH.nil
  go_simp
  refine (HG.out _ HB4.out).mono ?_
  rintro e w5 ⟨g, rfl, hA5, hg5, h5⟩
  have nW : Nu w.heap.size p := HUp.out.lt (Nat.le_refl _)
  refine hK.out _ _ ⟨h5.cell nW HS.1, h5.cell nW HS.2⟩ (fun HS => ?_)
  clear hK K
  refine wpAnyH_take (i := 7) (v := ?v16) rfl (by kernel_rfl) (by kernel_rfl) (by kernel_rfl) (fun _ _ _ h => h) (Or.inl ⟨by kernel_rfl, ?h16⟩) HS ?r16
  case h16 => (rintro w ⟨e0, e1⟩; go_simp) <;> with_reducible rfl
  try simp only [Act.put, List.getElem_toArray, List.getElem_cons_succ, List.getElem_cons_zero, List.setIfInBounds_toArray, List.set_cons_zero, List.set_cons_succ]
  refine wpAnyH_take (i := 8) (v := ?v17) rfl (by kernel_rfl) (by kernel_rfl) (by kernel_rfl) (fun _ _ _ h => h) (Or.inl ⟨by kernel_rfl, ?h17⟩) HS ?r17
  case h17 => (rintro w ⟨e0, e1⟩; go_simp) <;> with_reducible rfl
  try simp only [Act.put, List.getElem_toArray, List.getElem_cons_succ, List.getElem_cons_zero, List.setIfInBounds_toArray, List.set_cons_zero, List.set_cons_succ]
  refine wpAnyH_take (i := 9) (v := ?v18) rfl (by kernel_rfl) (by kernel_rfl) (by kernel_rfl) (fun _ _ _ h => h) (Or.inl ⟨by kernel_rfl, ?h18⟩) HS ?r18
  case h18 => (rintro w ⟨e0, e1⟩; go_simp) <;> with_reducible rfl
  try simp only [Act.put, List.getElem_toArray, List.getElem_cons_succ, List.getElem_cons_zero, List.setIfInBounds_toArray, List.set_cons_zero, List.set_cons_succ]
  refine wpAnyH_take (i := 10) (v := ?v19) rfl (by kernel_rfl) (by kernel_rfl) (by kernel_rfl) (fun _ _ _ h => h) (Or.inl ⟨by kernel_rfl, ?h19⟩) HS ?r19
  case h19 => (rintro w ⟨e0, e1⟩; go_simp) <;> with_reducible rfl
  try simp only [Act.put, List.getElem_toArray, List.getElem_cons_succ, List.getElem_cons_zero, List.setIfInBounds_toArray, List.set_cons_zero, List.set_cons_succ]
  refine wpAnyH_take (i := 11) (v := ?v20) rfl (by kernel_rfl) (by kernel_rfl) (by kernel_rfl) (fun _ _ _ h => h) (Or.inl ⟨by kernel_rfl, ?h20⟩) HS ?r20
  case h20 => (rintro w ⟨e0, e1⟩; go_simp) <;> with_reducible rfl
  try simp only [Act.put, List.getElem_toArray, List.getElem_cons_succ, List.getElem_cons_zero, List.setIfInBounds_toArray, List.set_cons_zero, List.set_cons_succ]
  refine wpAnyH_done (by kernel_rfl) ?_ _
  have HQ : Hid (Ar w5 (.slice (some ⟨g, 0, none⟩) cp cp) cp (gdG false z m P x t) ∧ w.heap.size ≤ g ∧ Ux p (c + cd) w w5) := ⟨hA5, by have := HB4.out.size; omega, (HUp.out.ux HB4.out).chain h5⟩
  clear HS hA5 h5 HB4 HG
  go_wp2
  go_ret3
  exact ⟨g, rfl, HQ.out.1, HQ.out.2.1, HQ.out.2.2⟩
set_option maxRecDepth 100000 in
set_option maxHeartbeats 4000000 in
theorem pGrad_bad (L E : Int) (vs vp vx vt : Value) (lx lt : Nat) (x t : Nat → Int) (p : Option Addr) (w : World) (hS : ∃ (ad : Option Addr) (n ca : Nat), vs = .slice ad n ca) (hP : ∃ (ad : Option Addr) (n ca : Nat), vp = .slice ad n ca) (hX : Ar w vx lx x) (hT : Ar w vt lt t) (hE0 : ¬ E = 0)
    (CK : ∀ (W : World) (vE : Value), Below w.heap.size w W → Exl W vE 1 (fun _ => lx) (fun _ => lt) → Calls Tryz.prog 54 #[.int .i64 L, vs, vp, vE] W fun e w' => e = .returned (.int .i64 E) ∧ Below W.heap.size W w') :
    Calls Tryz.prog 30 #[.pointer p, .int .i64 L, vs, vp, .agg #[vx, vt]] w fun e w' => e = .returned (.tuple #[.slice none 0 0, .int .i64 0, .int .i64 E]) ∧ Below w.heap.size w w' := by
  obtain ⟨ads, ms, cas, rfl⟩ := hS
  obtain ⟨adp, mp, cap, rfl⟩ := hP
  obtain ⟨adx, cax, bx, ox, rfl, -, -, -, -⟩ := hX
  obtain ⟨adt, cat, bt, ot, rfl, -, -, -, -⟩ := hT
  obtain ⟨w1, hw1⟩ : ∃ w1, w1 = w.alloc (.cells #[.slice adx lx cax, .slice adt lt cat] 74) := ⟨_, rfl⟩
  have hb1 : Below w.heap.size w w1 := by rw [hw1]; exact bel1 _ _
  have HX1 : B2 w.heap.size (.slice adx lx cax) (.slice adt lt cat) w1 := by rw [hw1]; exact B2.new w _ _ _
  have hs1 : w1.heap.size = w.heap.size + 1 := by rw [hw1, World.size_alloc]
  obtain ⟨w2, hw2⟩ : ∃ w2, w2 = w1.alloc (.cells #[.slice adx lx cax, .slice adt lt cat] 74) := ⟨_, rfl⟩
  have HB2 : Hid (Below w.heap.size w w2) := by rw [hw2]; exact bchain hb1 (bel1 _ _)
  have hE2 : Exl w2 (.slice (some ⟨w1.heap.size, 0, none⟩) 1 1) 1 (fun _ => lx) (fun _ => lt) := by rw [hw2]; exact exl_one w1 _ _ _ _ _ _
  have CC := CK w2 _ HB2.out hE2
  rw [hs1] at CC
  have x0 := HX1.c0
  have x1 := HX1.c1
  clear HX1 hb1 hE2 CK
  go_enter Tryz.func30, Tryz.ntmps30
  go_wp2_with fail
  rw [← hw1, ← hw2]
  refine CC.mono ?_
  rintro e w3 ⟨rfl, h3⟩
  have HB3 : Hid (Below w.heap.size w w3) := bchain HB2.out h3
  clear hw1 hw2 CC h3 HB2 x0 x1 hs1
  go_wp2
  go_ret3
  exact ⟨rfl, HB3.out⟩
theorem pGrad_ok (s : Bool) (vs vp vx vt : Value) (m cp : Nat) (z : Nat → Nat) (P x t : Nat → Int) (p : Option Addr) (c : Int) (c0 : 0 ≤ c) (c1 : c ≤ 500000000) (w : World) (hS : Ar w vs m (fun i => ((z i : Nat) : Int))) (hP : Ar w vp cp P) (hX : Ar w vx (z 0) x) (hT : Ar w vt (z (m - 1)) t) (hz : Szs z m) (hcp : cp = fsN z (m - 1)) (nS : Nv vs p) (nP : Nv vp p) (nX : Nv vx p) (nT : Nv vt p) (hp : Up p c w) (hTab : TabAt w) :
    Calls Tryz.prog 30 #[.pointer p, .int .i64 (lsK s), vs, vp, .agg #[vx, vt]] w fun e w' => ∃ g, e = .returned (.tuple #[.slice (some ⟨g, 0, none⟩) cp cp, .int .i64 (gdX s z m P x t), .int .i64 0]) ∧ Ar w' (.slice (some ⟨g, 0, none⟩) cp cp) cp (gdG s z m P x t) ∧ w.heap.size ≤ g ∧ Ux p (c + gdC s z m P x t) w w' := by
  have hcp2 : 0 < cp := by have h1 := fsN_mono z (show 1 ≤ m - 1 by have := hz.1; omega); have h2 := (lyN_le z m 0 hz.2.2 (by have := hz.1; omega)).2; have h3 : fsN z 1 = 0 + lyN z 0 := rfl; omega
  obtain ⟨b, o, cap, rfl⟩ := hP.lit hcp2
  cases s
  · exact pGrad_hg vs vx vt m b o cp cap z P x t p c c0 c1 w hS hP hX hT hz hcp nS (nP.nu hcp2) nX nT hp hTab
  · exact pGrad_sq vs vx vt m b o cp cap z P x t p c c0 c1 w hS hP hX hT hz hcp nS (nP.nu hcp2) nX nT hp hTab
theorem Ar.sl {w : World} {v : Value} {n : Nat} {f : Nat → Int} (h : Ar w v n f) : ∃ (ad : Option Addr) (k ca : Nat), v = .slice ad k ca := by
  obtain ⟨adr, cap, b, o, e, -, -, -, -⟩ := h
  exact ⟨adr, n, cap, e⟩
theorem pGrad_err (L : Int) (vs vp vx vt : Value) (m lp lx lt : Nat) (f P x t : Nat → Int) (z : Nat → Nat) (E : Int) (p : Option Addr) (w : World) (hA : Ar w vs m f) (hP : Ar w vp lp P) (hX : Ar w vx lx x) (hT : Ar w vt lt t) (hf : ∀ i, i < m → Rt f m → f i = ((z i : Nat) : Int)) (hE : rfE f m lp lx lt L (fsN z (m - 1)) (z 0) (z (m - 1)) E) (hE0 : E ≠ 0) :
    Calls Tryz.prog 30 #[.pointer p, .int .i64 L, vs, vp, .agg #[vx, vt]] w fun e w' => e = .returned (.tuple #[.slice none 0 0, .int .i64 0, .int .i64 E]) ∧ Below w.heap.size w w' := by
  refine pGrad_bad L E vs vp vx vt lx lt x t p w hA.sl hP.sl hX hT hE0 (fun W vE hb hEx => ?_)
  by_cases hr : Rt f m
  · obtain ⟨m2, m6, hsz⟩ := hr
    have hz : Szs z m := ⟨m2, m6, fun i hi => by have h1 := hsz i hi; have h2 := hf i hi ⟨m2, m6, hsz⟩; omega⟩
    have hC := check_any7 L vs vp vE m lp 1 z P _ _ W ((hA.later hb).congr (fun k hk => hf k hk ⟨m2, m6, hsz⟩)) (hP.later hb) hEx hz
    have e : chE L 1 lp (fsN z (m - 1)) (mfX (z 0) (z (m - 1)) (fun _ => lx) (fun _ => lt) 1) = E := by
      unfold chE
      rw [mfX_one]
      by_cases hL : L = 1 ∨ L = 2
      · rw [if_pos hL, if_neg (by omega)]
        by_cases hfit : lp = fsN z (m - 1) ∧ lx = z 0 ∧ lt = z (m - 1)
        · exact absurd (hE.2.2.2 ⟨m2, m6, hsz⟩ hL hfit) hE0
        · rw [hE.2.2.1 ⟨m2, m6, hsz⟩ hL hfit, if_neg]
          rintro ⟨h1, h2⟩
          unfold mfB at h2
          simp at h2
          exact hfit ⟨h1, h2.1, h2.2⟩
      · rw [if_neg hL, hE.2.1 ⟨m2, m6, hsz⟩ hL]
    rw [e] at hC
    exact hC
  · have hC := check_sz L vs vp vE m lp 1 f P _ _ W (hA.later hb) (hP.later hb) hEx hr
    rw [hE.1 hr]
    exact hC.mono fun e w' h => ⟨h.1, by rw [h.2]; exact Below.refl _ _⟩
theorem mlp4 : Mlp4 where
  gradU := fun s vs vp vx vt m cp z P x t d c w c0 c1 hS hP hX hT hz hcp nS nP nX nT hU hV => (pGrad_ok s vs vp vx vt m cp z P x t _ c c0 (by omega) w hS hP hX hT hz hcp (nv_some nS) (nv_some nP) (nv_some nX) (nv_some nT) (up_some hU) hV).mono fun e w' ⟨g, h1, h2, h3, h4⟩ => ⟨_, h1, h2, fun a n cap e _ => by cases e; exact h3, ux_un h4⟩
  gradN := fun s vs vp vx vt m cp z P x t w hS hP hX hT hz hcp hV => (pGrad_ok s vs vp vx vt m cp z P x t none 0 (by omega) (by omega) w hS hP hX hT hz hcp (nv_none _) (nv_none _) (nv_none _) (nv_none _) (Or.inl rfl) hV).mono fun e w' ⟨g, h1, h2, h3, h4⟩ => ⟨_, h1, h2, fun a n cap e _ => by cases e; exact h3, ux_nil h4⟩
  gradE := fun L vs vp vx vt m lp lx lt f P x t z E d c w hm hA hP hX hT hf hE hE0 hU hV => (pGrad_err L vs vp vx vt m lp lx lt f P x t z E _ w hA hP hX hT hf hE hE0).mono fun e w' h => ⟨_, h.1, ⟨none, 0, rfl⟩, (Un.same hU.1 hU.2).ahead h.2⟩
theorem Vls.ls {B : Nat} {w : World} {v : Value} {m : Nat} {ns : Nat → Nat} {fs : Nat → Nat → Int} (h : Vls B w v m ns fs) {d : Nat} (hd : d < B) : Ls w d v m ns fs := by
  obtain ⟨g, cap, e, h1, h2, h3, h4⟩ := h
  exact ⟨g, cap, e, h1, h2, by omega, fun k hk => by obtain ⟨va, a1, a2, a3, -⟩ := h4 k hk; exact ⟨va, a1, a2, fun a n cap e h0 => by have := a3 a n cap e h0; omega⟩⟩
end Go.Proofs.YtdfjnbkkdgolnaaGreatDoor
set_option linter.unusedVariables false
set_option linter.unusedSimpArgs false
namespace Go.Proofs.YtdfjnbkkdgolnaaGreatDoor
open Go.RowKit

theorem cell_three_new (w : World) (x y u : Value) (t : TypeId) : ∀ j q, [x, y, u][j]? = some q → (w.alloc (.cells #[x, y, u] t)).cell? ((⟨w.heap.size, 0, none⟩ : Addr).add j) = some q := by
  intro j q h
  rcases j with _ | _ | _ | j
  all_goals simp at h
  all_goals subst h
  all_goals simp [go_sem, Addr.add]
theorem dinfo_mf : (Tryz.prog.info? 40).map (fun i => (i.zero, i.size, i.bytes)) = some (some (.agg #[.int .i64 0, .int .i64 0, .slice none 0 0]), 3, 40) := by kernel_rfl
theorem keep_list {w w3 : World} {v v' A : Value} {n : Nat} {f : Nat → Int} {o : Obj} (hA : Ar w A n f) (hN : ∀ g, v.ownBlock = some g → Nb A g) (hgrow : (w.alloc o).grownBy w3 v.ownBlock) (hat : v'.ownBlock = v.ownBlock ∨ v'.ownBlock = some (w.alloc o).heap.size) : Ar w3 A n f ∧ ∀ g, v'.ownBlock = some g → Nb A g := by
  refine ⟨hA.stay (fun a n' cap e h0 => ?_), fun g hg => ?_⟩
  · have hlt : a.block < w.heap.size := by
      rcases Nat.lt_or_ge a.block w.heap.size with h | h
      · exact h
      · exact absurd rfl (hA.spare h a n' cap e h0)
    rw [hgrow.block a.block (by rw [World.size_alloc]; omega) (fun e2 => hN a.block e2.symm a n' cap e h0 rfl), Below.heap_alloc _ _ _ (by omega)]
  · rcases hat with h | h
    · exact hN g (h.symm.trans hg)
    · rw [h] at hg
      obtain rfl := Option.some.inj hg
      exact hA.spare (by rw [World.size_alloc]; omega)
theorem Ar.farN {w : World} {v : Value} {n : Nat} {f : Nat → Int} (h : Ar w v n f) {a : Addr} (u : Value) (hn : Nb v a.block) : Ar (w.setCell a u) v n f := by
  obtain ⟨adr, cap, b, o, e, h1, h2, h3, h4⟩ := h
  refine ⟨adr, cap, b, o, e, h1, h2, h3, fun k hk => ⟨cell_set ?_ (h4 k hk).1, (h4 k hk).2⟩⟩
  have e2 := h3 (by omega)
  subst e2
  exact fun e3 => hn ⟨b, o, none⟩ n cap e (by omega) (by dsimp only at e3 ⊢; exact e3.symm)
/-- Two lists lie apart. -/
def Dj (v1 v2 : Value) : Prop := ∀ g, v1.ownBlock = some g → v2.ownBlock ≠ some g
/-- Matrices that were taken apart. -/
def Mx (w : World) (B : Nat) (v1 v2 : Value) (i : Nat) (z : Nat → Nat) (P : Nat → Int) : Prop :=
  ∃ xs : List Value, w.ownsRow B 40 3 v1 i xs ∧ ∀ l, l < i → ∃ (adA : Option Addr) (caA : Nat), xs[l * 3]? = some (.int .i64 ((z (l + 1) : Nat) : Int)) ∧ xs[l * 3 + 1]? = some (.int .i64 ((z l : Nat) : Int)) ∧ xs[l * 3 + 2]? = some (.slice adA (z (l + 1) * z l) caA) ∧ Ar w (.slice adA (z (l + 1) * z l) caA) (z (l + 1) * z l) (fun k => P (fsN z l + k)) ∧ (∀ g, v1.ownBlock = some g → Nb (.slice adA (z (l + 1) * z l) caA) g) ∧ ∀ g, v2.ownBlock = some g → Nb (.slice adA (z (l + 1) * z l) caA) g
/-- Offsets that were taken apart. -/
def Ox (w : World) (B : Nat) (v2 v1 : Value) (i : Nat) (z : Nat → Nat) (P : Nat → Int) : Prop :=
  ∃ xs : List Value, w.ownsRow B 23 1 v2 i xs ∧ ∀ l, l < i → ∃ (adB : Option Addr) (caB : Nat), xs[l]? = some (.slice adB (z (l + 1)) caB) ∧ Ar w (.slice adB (z (l + 1)) caB) (z (l + 1)) (fun u => P (ofN z l u)) ∧ (∀ g, v2.ownBlock = some g → Nb (.slice adB (z (l + 1)) caB) g) ∧ ∀ g, v1.ownBlock = some g → Nb (.slice adB (z (l + 1)) caB) g
theorem Mx.later {w w' : World} {B : Nat} {v1 v2 : Value} {i : Nat} {z : Nat → Nat} {P : Nat → Int} (h : Mx w B v1 v2 i z P) (hb : Below w.heap.size w w') : Mx w' B v1 v2 i z P := by
  obtain ⟨xs, h1, h2⟩ := h
  exact ⟨xs, own_later h1 hb, fun l hl => by obtain ⟨a, c, e0, e1, e2, x, y, q⟩ := h2 l hl; exact ⟨a, c, e0, e1, e2, x.later hb, y, q⟩⟩
theorem Ox.later {w w' : World} {B : Nat} {v1 v2 : Value} {i : Nat} {z : Nat → Nat} {P : Nat → Int} (h : Ox w B v2 v1 i z P) (hb : Below w.heap.size w w') : Ox w' B v2 v1 i z P := by
  obtain ⟨xs, h1, h2⟩ := h
  exact ⟨xs, own_later h1 hb, fun l hl => by obtain ⟨a, c, e0, x, y, q⟩ := h2 l hl; exact ⟨a, c, e0, x.later hb, y, q⟩⟩
theorem dj_grow {w : World} {B : Nat} {e : TypeId} {s k : Nat} {v v' v2 : Value} {o : Obj} {xs : List Value} (h : Dj v v2) (h2 : w.ownsRow B e s v2 k xs) (hat : v'.ownBlock = v.ownBlock ∨ v'.ownBlock = some (w.alloc o).heap.size) : Dj v' v2 := by
  intro g hg
  rcases hat with e | e
  · exact h g (e.symm.trans hg)
  · rw [e] at hg
    obtain rfl := Option.some.inj hg
    intro e2
    have := (h2.lt _ e2).2
    rw [World.size_alloc] at this
    omega
theorem Dj.symm {v1 v2 : Value} (h : Dj v1 v2) : Dj v2 v1 := fun g h2 h1 => h g h1 h2
theorem mx_grow {w w3 : World} {B : Nat} {v1 v2 v' : Value} {i k : Nat} {z : Nat → Nat} {P : Nat → Int} {o : Obj} {adA : Option Addr} {caA : Nat} {xs : List Value} (h1 : w.ownsRow B 40 3 v1 i xs) (h2 : ∀ l, l < i → ∃ (adA : Option Addr) (caA : Nat), xs[l * 3]? = some (.int .i64 ((z (l + 1) : Nat) : Int)) ∧ xs[l * 3 + 1]? = some (.int .i64 ((z l : Nat) : Int)) ∧ xs[l * 3 + 2]? = some (.slice adA (z (l + 1) * z l) caA) ∧ Ar w (.slice adA (z (l + 1) * z l) caA) (z (l + 1) * z l) (fun k => P (fsN z l + k)) ∧ (∀ g, v1.ownBlock = some g → Nb (.slice adA (z (l + 1) * z l) caA) g) ∧ ∀ g, v2.ownBlock = some g → Nb (.slice adA (z (l + 1) * z l) caA) g) (hO : Ox w B v2 v1 k z P) (hD : Dj v1 v2)
    (hA : Ar w (.slice adA (z (i + 1) * z i) caA) (z (i + 1) * z i) (fun k => P (fsN z i + k))) (hN1 : ∀ g, v1.ownBlock = some g → Nb (.slice adA (z (i + 1) * z i) caA) g) (hN2 : ∀ g, v2.ownBlock = some g → Nb (.slice adA (z (i + 1) * z i) caA) g)
    (hown : w3.ownsRow B 40 3 v' (i + 1) (xs ++ [.int .i64 ((z (i + 1) : Nat) : Int), .int .i64 ((z i : Nat) : Int), .slice adA (z (i + 1) * z i) caA]) ) (hgrow : (w.alloc o).grownBy w3 v1.ownBlock) (hat : v'.ownBlock = v1.ownBlock ∨ v'.ownBlock = some (w.alloc o).heap.size) : Mx w3 B v' v2 (i + 1) z P ∧ Ox w3 B v2 v' k z P ∧ Dj v' v2 := by
  obtain ⟨ys, q1, q2⟩ := hO
  have hlen : xs.length = i * 3 := h1.1
  refine ⟨⟨_, hown, fun l hl => ?_⟩, ⟨ys, (q1.alloc o).kept hgrow ?_, fun l hl => ?_⟩, dj_grow hD q1 hat⟩
  · rcases Nat.lt_or_ge l i with h | h
    · obtain ⟨a, c, e0, e1, e2, x, y, q⟩ := h2 l h
      obtain ⟨x', y'⟩ := keep_list x y hgrow hat
      exact ⟨a, c, by rw [List.getElem?_append_left (by omega)]; exact e0, by rw [List.getElem?_append_left (by omega)]; exact e1, by rw [List.getElem?_append_left (by omega)]; exact e2, x', y', q⟩
    · obtain rfl : l = i := by omega
      obtain ⟨x', y'⟩ := keep_list hA hN1 hgrow hat
      refine ⟨adA, caA, ?_, ?_, ?_, x', y', hN2⟩
      · rw [List.getElem?_append_right (by omega), hlen, Nat.sub_self]; rfl
      · rw [List.getElem?_append_right (by omega), hlen, show l * 3 + 1 - l * 3 = 1 by omega]; rfl
      · rw [List.getElem?_append_right (by omega), hlen, show l * 3 + 2 - l * 3 = 2 by omega]; rfl
  · rcases hv : v2.ownBlock with _ | g
    · exact Or.inl rfl
    · right
      intro e
      exact hD g e.symm hv
  · obtain ⟨a, c, e0, x, y, q⟩ := q2 l hl
    obtain ⟨x', y'⟩ := keep_list x q hgrow hat
    exact ⟨a, c, e0, x', y, y'⟩
theorem ox_grow {w w3 : World} {B : Nat} {v1 v2 v' : Value} {i k : Nat} {z : Nat → Nat} {P : Nat → Int} {o : Obj} {adB : Option Addr} {caB : Nat} {ys : List Value} (hM : Mx w B v1 v2 k z P) (q1 : w.ownsRow B 23 1 v2 i ys) (q2 : ∀ l, l < i → ∃ (adB : Option Addr) (caB : Nat), ys[l]? = some (.slice adB (z (l + 1)) caB) ∧ Ar w (.slice adB (z (l + 1)) caB) (z (l + 1)) (fun u => P (ofN z l u)) ∧ (∀ g, v2.ownBlock = some g → Nb (.slice adB (z (l + 1)) caB) g) ∧ ∀ g, v1.ownBlock = some g → Nb (.slice adB (z (l + 1)) caB) g) (hD : Dj v1 v2)
    (hA : Ar w (.slice adB (z (i + 1)) caB) (z (i + 1)) (fun u => P (ofN z i u))) (hN1 : ∀ g, v1.ownBlock = some g → Nb (.slice adB (z (i + 1)) caB) g) (hN2 : ∀ g, v2.ownBlock = some g → Nb (.slice adB (z (i + 1)) caB) g)
    (hown : w3.ownsRow B 23 1 v' (i + 1) (ys ++ [.slice adB (z (i + 1)) caB])) (hgrow : (w.alloc o).grownBy w3 v2.ownBlock) (hat : v'.ownBlock = v2.ownBlock ∨ v'.ownBlock = some (w.alloc o).heap.size) : Mx w3 B v1 v' k z P ∧ Ox w3 B v' v1 (i + 1) z P ∧ Dj v1 v' := by
  obtain ⟨xs, h1, h2⟩ := hM
  have hlen : ys.length = i := by have := q1.1; omega
  refine ⟨⟨xs, (h1.alloc o).kept hgrow ?_, fun l hl => ?_⟩, ⟨_, hown, fun l hl => ?_⟩, (dj_grow hD.symm h1 hat).symm⟩
  · rcases hv : v1.ownBlock with _ | g
    · exact Or.inl rfl
    · right
      intro e
      exact hD g hv e.symm
  · obtain ⟨a, c, e0, e1, e2, x, y, q⟩ := h2 l hl
    obtain ⟨x', y'⟩ := keep_list x q hgrow hat
    exact ⟨a, c, e0, e1, e2, x', y, y'⟩
  · rcases Nat.lt_or_ge l i with h | h
    · obtain ⟨a, c, e0, x, y, q⟩ := q2 l h
      obtain ⟨x', y'⟩ := keep_list x y hgrow hat
      exact ⟨a, c, by rw [List.getElem?_append_left (by omega)]; exact e0, x', y', q⟩
    · obtain rfl : l = i := by omega
      obtain ⟨x', y'⟩ := keep_list hA hN2 hgrow hat
      exact ⟨adB, caB, by rw [List.getElem?_append_right (by omega), hlen]; simp, x', y', hN1⟩
theorem grow_cell {w w3 : World} {o : Obj} {r : Option Nat} {a : Addr} {x : Value} (hgrow : (w.alloc o).grownBy w3 r) (hr : r ≠ some a.block) (hc : w.cell? a = some x) : w3.cell? a = some x :=
  (World.cell?_of_block (w := w.alloc o) (hgrow.block a.block (by rw [World.size_alloc]; have := World.block_lt_of_cell? _ _ hc; omega) (fun e => hr e.symm))).trans (cell_later (bel1 w o) hc)
theorem mx_nil (w : World) (B : Nat) (v2 : Value) (z : Nat → Nat) (P : Nat → Int) : Mx w B (.slice none 0 0) v2 0 z P := ⟨[], World.ownsRow_nil _ _ _ _, fun l hl => by omega⟩
theorem ox_nil (w : World) (B : Nat) (v1 : Value) (z : Nat → Nat) (P : Nat → Int) : Ox w B (.slice none 0 0) v1 0 z P := ⟨[], World.ownsRow_nil _ _ _ _, fun l hl => by omega⟩
theorem spl_of {w : World} {B : Nat} {v1 v2 : Value} {M : Nat} {z : Nat → Nat} {P : Nat → Int} (hM : Mx w B v1 v2 M z P) (hO : Ox w B v2 v1 M z P) (h0 : 0 < M) : ∃ gm cm gb cb, v1 = .slice (some ⟨gm, 0, none⟩) M cm ∧ v2 = .slice (some ⟨gb, 0, none⟩) M cb ∧ (M ≤ cm ∧ cm ≤ maxLen) ∧ (M ≤ cb ∧ cb ≤ maxLen) ∧ Spl w gm 0 gb 0 (M + 1) z P := by
  obtain ⟨xs, h1, h2⟩ := hM
  obtain ⟨ys, q1, q2⟩ := hO
  rcases id h1.2 with ⟨_, e0⟩ | ⟨gm, cm, cur, e1, -, -, a1, a2, -, -⟩
  · omega
  rcases id q1.2 with ⟨_, e0⟩ | ⟨gb, cb, cur', e2, -, -, b1, b2, -, -⟩
  · omega
  subst e1 e2
  refine ⟨gm, cm, gb, cb, rfl, rfl, ⟨a1, a2⟩, ⟨b1, b2⟩, fun l hl => ?_⟩
  obtain ⟨aA, cA, e0, e1, e2, x, -, -⟩ := h2 l (by omega)
  obtain ⟨aB, cB, f0, y, -, -⟩ := q2 l (by omega)
  have hl1 : xs.length = M * 3 := h1.1
  have hl2 : ys.length = M := by have := q1.1; omega
  rw [Nat.zero_add, Nat.zero_add]
  exact ⟨aA, cA, aB, cB, (h1.cellAt _ (by omega)).trans e0, (h1.cellAt _ (by omega)).trans e1, (h1.cellAt _ (by omega)).trans e2, x, (q1.cellAt _ (by omega)).trans f0, y⟩
end Go.Proofs.YtdfjnbkkdgolnaaGreatDoor
set_option linter.unusedVariables false
set_option linter.unusedSimpArgs false
namespace Go.Proofs.YtdfjnbkkdgolnaaGreatDoor
open Go.RowKit

set_option maxHeartbeats 2000000 in
theorem pSplit_bad (vs vp : Value) (E : Int) (hE : ¬ E = 0) (w : World) (hS : ∃ (ad : Option Addr) (n ca : Nat), vs = .slice ad n ca) (hP : ∃ (ad : Option Addr) (n ca : Nat), vp = .slice ad n ca) (CK : Calls Tryz.prog 37 #[vs, vp] w fun e w' => e = .returned (.int .i64 E) ∧ w' = w) :
    Calls Tryz.prog 12 #[vs, vp] w fun e w' => e = .returned (.tuple #[.slice none 0 0, .slice none 0 0, .int .i64 E]) ∧ w' = w := by
  obtain ⟨ads, ms, cas, rfl⟩ := hS
  obtain ⟨adp, mp, cap, rfl⟩ := hP
  go_enter Tryz.func12, Tryz.ntmps12
  go_wp2_with fail
  refine CK.mono ?_
  rintro e wz ⟨rfl, hz⟩
  subst hz
  clear CK
  go_wp2
  go_ret3
  exact ⟨rfl, rfl⟩
set_option maxRecDepth 100000 in
set_option maxHeartbeats 8000000 in
theorem pSplit_ok (vs : Value) (m b o cp cap : Nat) (z : Nat → Nat) (P : Nat → Int) (w : World) (hS : Ar w vs m (fun i => ((z i : Nat) : Int))) (hP : Ar w (.slice (some ⟨b, o, none⟩) cp cap) cp P) (hz : Szs z m) (hcp : cp = fsN z (m - 1)) :
    Calls Tryz.prog 12 #[vs, .slice (some ⟨b, o, none⟩) cp cap] w fun e w' => ∃ gm cm gb cb, e = .returned (.tuple #[.slice (some ⟨gm, 0, none⟩) (m - 1) cm, .slice (some ⟨gb, 0, none⟩) (m - 1) cb, .int .i64 0]) ∧ (m - 1 ≤ cm ∧ cm ≤ maxLen) ∧ (m - 1 ≤ cb ∧ cb ≤ maxLen) ∧ Spl w' gm 0 gb 0 m z P ∧ Below w.heap.size w w' := by
  obtain ⟨i1, hti1, hy3, hy4, hy5⟩ := info_parts dinfo_fs
  obtain ⟨i0, hti0, hx3, hx4, hx5⟩ := info_parts dinfo_mf
  obtain ⟨m2, m6, hz6⟩ := id hz
  obtain ⟨hcc1, hcc2⟩ : cp ≤ cap ∧ cap ≤ maxLen := by obtain ⟨_, _, _, _, e, h2, h3, _⟩ := hP; cases e; exact ⟨h2, h3⟩
  have CK := pChk_yes vs (.slice (some ⟨b, o, none⟩) cp cap) m cp z P w hS hP hz
  rw [if_pos hcp] at CK
  have CL := layersOf_any vs m b o cp cap z w hS hz hcp hcc1 hcc2
  have HZ : Hid (∀ i, i < m → 1 ≤ z i ∧ z i ≤ 64) := hz6
  have HP : Hid (Ar w (.slice (some ⟨b, o, none⟩) cp cap) cp P ∧ cp = fsN z (m - 1) ∧ cp ≤ cap ∧ cap ≤ maxLen) := ⟨hP, hcp, hcc1, hcc2⟩
  obtain ⟨ads, cas, bs, os, rfl, -, -, -, -⟩ := hS
  obtain ⟨M, hM⟩ : ∃ M, m - 1 = M := ⟨_, rfl⟩
  rw [hM] at CL ⊢
  have HM : Hid (m = M + 1) := by show _ = _; omega
  have hM1 : 1 ≤ M := by omega
  have hM5 : M ≤ 5 := by omega
  clear hz hz6 hcp hcc1 hcc2 hM hP
  go_enter Tryz.func12, Tryz.ntmps12
  go_wp2_with fail
  refine CK.mono ?_
  rintro e wz ⟨rfl, hz⟩
  subst hz
  go_wp2_with fail
  refine CL.mono ?_
  rintro e w2 ⟨gL, cL, rfl, hL, hgL, h2⟩
  obtain ⟨g', c', e, l1, l2, hLc⟩ := id hL
  cases e
  unfold maxLen at l2
  have HLc : Hid (∀ k, k < M → w2.cell? ⟨gL, k * 4, none⟩ = some (.int .i64 ((z (k + 1) : Nat) : Int)) ∧ w2.cell? ⟨gL, k * 4 + 1, none⟩ = some (.int .i64 ((z k : Nat) : Int)) ∧ w2.cell? ⟨gL, k * 4 + 2, none⟩ = some (lyA b o cap z k) ∧ w2.cell? ⟨gL, k * 4 + 3, none⟩ = some (lyB b o cap z k)) := hLc
  have HB2 : Hid (Below wz.heap.size wz w2) := h2
  clear CK CL hL h2 hLc
  go_upto_region 7 with fail
  go_loopw [8, 9, 22] (fun s8 s9 si wr => ∃ i : Nat, i ≤ M ∧ si = .int .i64 (i : Int) ∧ Hid (Mx wr w2.heap.size s8 s9 i z P) ∧ Hid (Ox wr w2.heap.size s9 s8 i z P) ∧ Hid (Dj s8 s9) ∧ Hid (Below w2.heap.size w2 wr)) (fun _ _ si _ => M - (intOf si).toNat)
  case atStart => exact ⟨0, by omega, rfl, mx_nil _ _ _ _ _, ox_nil _ _ _ _ _, (fun g h => by cases h), Below.refl _ _⟩
  case round =>
    rename World => wo
    obtain ⟨i, hi, rfl, HMx, HOx, HDj, HBo⟩ := hrel
    by_cases hlt : i < M
    · have hiI : (i : Int) < (M : Int) := by omega
      obtain ⟨a0, a1, a2, a3⟩ := HLc.out i hlt
      have eA : lyA b o cap z i = .slice (some ⟨b, o + fsN z i, none⟩) (z (i + 1) * z i) (cap - fsN z i) := rfl
      have eB : lyB b o cap z i = .slice (some ⟨b, o + fsN z i + z (i + 1) * z i, none⟩) (z (i + 1)) (cap - fsN z i - z (i + 1) * z i) := rfl
      have hPo := HP.out.1.later HB2.out
      have hAA := lyA_ar (m := m) (l := i) hPo HP.out.2.1 (by have := HM.out; omega) HP.out.2.2.1 HP.out.2.2.2
      have hAB := lyB_ar (m := m) (l := i) hPo HP.out.2.1 (by have := HM.out; omega) HP.out.2.2.1 HP.out.2.2.2
      rw [eA] at a2 hAA
      rw [eB] at a3 hAB
      have d0 := cell_later HBo.out a0
      have d1 := cell_later HBo.out a1
      have d2 := cell_later HBo.out a2
      have d3 := cell_later HBo.out a3
      obtain ⟨z1, z2⟩ := HZ.out i (by have := HM.out; omega)
      obtain ⟨y1, y2⟩ := HZ.out (i + 1) (by have := HM.out; omega)
      have hnb : z (i + 1) * z i ≤ 64 * 64 := Nat.mul_le_mul y2 z2
      have hfo : (fun j => P (fsN z i + z (i + 1) * z i + j)) = (fun u => P (ofN z i u)) := funext (fun u => by unfold ofN; rw [Nat.mul_comm (z i)])
      rw [hfo] at hAB
      have HAB : Hid (Ar w2 (.slice (some ⟨b, o + fsN z i + z (i + 1) * z i, none⟩) (z (i + 1)) (cap - fsN z i - z (i + 1) * z i)) (z (i + 1)) (fun u => P (ofN z i u))) := hAB
      obtain ⟨w3, hw3⟩ : ∃ w3, w3 = wo.alloc (.cells #[.int .i64 ((z (i + 1) : Nat) : Int), .int .i64 ((z i : Nat) : Int), .slice (some ⟨b, o + fsN z i, none⟩) (z (i + 1) * z i) (cap - fsN z i), .slice (some ⟨b, o + fsN z i + z (i + 1) * z i, none⟩) (z (i + 1)) (cap - fsN z i - z (i + 1) * z i)] 94) := ⟨_, rfl⟩
      have hb3 : Below wo.heap.size wo w3 := by rw [hw3]; exact bel1 _ _
      have hs3 : w3.heap.size = wo.heap.size + 1 := by rw [hw3, World.size_alloc]
      have HB3 : B4 wo.heap.size (.int .i64 ((z (i + 1) : Nat) : Int)) (.int .i64 ((z i : Nat) : Int)) (.slice (some ⟨b, o + fsN z i, none⟩) (z (i + 1) * z i) (cap - fsN z i)) (.slice (some ⟨b, o + fsN z i + z (i + 1) * z i, none⟩) (z (i + 1)) (cap - fsN z i - z (i + 1) * z i)) w3 := by rw [hw3]; exact B4.new wo _ _ _ _ _
      have fz3 : w3.frozen? ⟨wo.heap.size, 2, none⟩ = false := by rw [hw3]; simp [go_sem]
      have CA := clone_any _ _ _ (by omega) w3 ((hAA.later HBo.out).later hb3)
      clear hAA hAB eA eB a0 a1 a2 a3 hPo hfo
      generalize cap - fsN z i - z (i + 1) * z i = kB at *
      generalize o + fsN z i + z (i + 1) * z i = qB at *
      generalize cap - fsN z i = kA at *
      generalize o + fsN z i = qA at *
      obtain ⟨nA, hnA⟩ : ∃ x, z (i + 1) * z i = x := ⟨_, rfl⟩
      rw [hnA] at d2 hnb hw3 HB3 CA
      have HnA : Hid (z (i + 1) * z i = nA) := hnA
      clear hnA
      have x2 := HB3.c2
      go_upto_region 9 with fail
      rw [← hw3]
      clear hw3 d0 d1 d2 d3
      go_wp2_with fail
      refine CA.mono ?_
      rintro e w4 ⟨adA, caA, rfl, hA4, hO4, h4⟩
      have HB4 := HB3.later h4
      have f4 := frozen_later h4 HB3.c2 fz3
      have c42 := HB4.c2
      have hb4 : Below wo.heap.size wo w4 := bchain hb3 h4
      obtain ⟨w5, hw5⟩ : ∃ w5, w5 = w4.setCell ⟨wo.heap.size, 2, none⟩ (.slice adA nA caA) := ⟨_, rfl⟩
      have hb5 : Below wo.heap.size wo w5 := by rw [hw5]; exact hb4.setCell (Nat.le_refl _) _
      have e50 : w5.cell? ⟨wo.heap.size, 0, none⟩ = some (.int .i64 ((z (i + 1) : Nat) : Int)) := by rw [hw5]; exact (World.cell?_setCell_other _ _ _ _ (by simp)).trans HB4.c0
      have e51 : w5.cell? ⟨wo.heap.size, 1, none⟩ = some (.int .i64 ((z i : Nat) : Int)) := by rw [hw5]; exact (World.cell?_setCell_other _ _ _ _ (by simp)).trans HB4.c1
      have e52 : w5.cell? ⟨wo.heap.size, 2, none⟩ = some (.slice adA nA caA) := by rw [hw5]; exact World.cell?_setCell_same' _ _ _ (by rw [HB4.c2]; rfl)
      have e53 : w5.cell? ⟨wo.heap.size, 3, none⟩ = some (.slice (some ⟨b, qB, none⟩) (z (i + 1)) kB) := by rw [hw5]; exact (World.cell?_setCell_other _ _ _ _ (by simp)).trans HB4.c3
      have nb4 : ∀ g, g ≤ wo.heap.size → Nb (.slice adA nA caA) g := fun g hg a n' cap' e h0 => by have := hO4 a n' cap' e h0; omega
      have hA5 : Ar w5 (.slice adA nA caA) nA (fun k => P (fsN z i + k)) := by rw [hw5]; exact hA4.farN _ (nb4 _ (Nat.le_refl _))
      have HM5 := HMx.out.later hb5
      have HO5 := HOx.out.later hb5
      have hs5 : wo.heap.size < w5.heap.size := World.block_lt_of_cell? _ _ e50
      have ob8 : ∀ g, u8.ownBlock = some g → g ≤ wo.heap.size := fun g hg => by obtain ⟨xs, q1, -⟩ := HMx.out; have := (q1.lt g hg).2; omega
      have ob9 : ∀ g, u9.ownBlock = some g → g ≤ wo.heap.size := fun g hg => by obtain ⟨xs, q1, -⟩ := HOx.out; have := (q1.lt g hg).2; omega
      obtain ⟨xs5, hr5, hq5⟩ := HM5
      have ob8' : u8.ownBlock ≠ some wo.heap.size := fun h => by obtain ⟨xs, q1, -⟩ := HMx.out; have := (q1.lt _ h).2; omega
      have hB25 : Below w2.heap.size w2 w5 := bchain HBo.out hb5
      have nA8 : ∀ g, u8.ownBlock = some g → Nb (.slice adA nA caA) g := fun g hg => nb4 g (ob8 g hg)
      have nA9 : ∀ g, u9.ownBlock = some g → Nb (.slice adA nA caA) g := fun g hg => nb4 g (ob9 g hg)
      have HX5 : Hid ((∀ g, u8.ownBlock = some g → Nb (.slice adA nA caA) g) ∧ (∀ g, u9.ownBlock = some g → Nb (.slice adA nA caA) g) ∧ Below w2.heap.size w2 w5) := ⟨nA8, nA9, hB25⟩
      have HO5' : Hid _ := HO5
      have HA5 : Hid (Ar w5 (.slice adA nA caA) nA (fun k => P (fsN z i + k))) := hA5
      clear nA8 nA9 hB25 nb4 HO5 hA5
      clear CA HB3 hb3 h4 hb4 fz3 hO4 hA4
      have hwo := HBo.out.size
      go_upto_region 10 with fail
      rw [← hw5]
      clear hw5 c42 f4 HB4 x2
      go_wp2_with (at_builtin; refine wpList_append_own_at _ rfl _ _ 30 rfl w2.heap.size 40 i0 (.agg #[.int .i64 0, .int .i64 0, .slice none 0 0]) 3 40 Tryz.underlying30 hti0 hx3 hx4 hx5 rfl (by decide) _ _ _ rfl (hr5.alloc _) ⟨w5.heap.size, 0, none⟩ 1 1 [.int .i64 ((z (i + 1) : Nat) : Int), .int .i64 ((z i : Nat) : Int), .slice adA nA caA] rfl rfl (cell_three_new _ _ _ _ _) (by intro q hq; simp only [List.mem_cons, List.not_mem_nil, or_false] at hq; rcases hq with rfl | rfl | rfl <;> rfl) (by unfold maxLen; omega) (by omega) (by rw [World.size_alloc]; omega) ?_; intro v8 w8 hown' hgrow hnil hat; have e83 : w8.cell? ⟨wo.heap.size, 3, none⟩ = some (.slice (some ⟨b, qB, none⟩) (z (i + 1)) kB) := grow_cell hgrow ob8' e53; clear e50 e51 e52 e53)
      have hMO : Mx w8 w2.heap.size v8 u9 (i + 1) z P ∧ Ox w8 w2.heap.size u9 v8 i z P ∧ Dj v8 u9 := by
        have e := HnA.out
        subst e
        exact mx_grow hr5 hq5 HO5'.out HDj.out HA5.out HX5.out.1 HX5.out.2.1 hown' hgrow hat
      have HB8 : Hid (Below w2.heap.size w2 w8) := below_own HX5.out.2.2 HX5.out.2.2.size hr5 hgrow
      have CB := clone_any _ _ _ (by omega) w8 (HAB.out.later HB8.out)
      have HMO : Hid _ := hMO
      clear hMO hr5 hq5 hown' hgrow hat hnil HX5 HA5 HO5' HMx HOx HDj ob8 ob9 ob8' hb5 HBo hwo hs5
      refine CB.mono ?_
      rintro e w9 ⟨adB, caB, rfl, hA9, hO9, h9⟩
      have HM9 := HMO.out.1.later h9
      obtain ⟨ys9, hr9, hq9⟩ := HMO.out.2.1.later h9
      have hs9 := h9.size
      have nb9 : ∀ g, g < w8.heap.size → Nb (.slice adB (z (i + 1)) caB) g := fun g hg a n' cap' e h0 => by have := hO9 a n' cap' e h0; omega
      have nB8 : ∀ g, v8.ownBlock = some g → Nb (.slice adB (z (i + 1)) caB) g := fun g hg => nb9 g (by obtain ⟨xs, q1, -⟩ := HMO.out.1; exact (q1.lt g hg).2)
      have nB9 : ∀ g, u9.ownBlock = some g → Nb (.slice adB (z (i + 1)) caB) g := fun g hg => nb9 g (by obtain ⟨xs, q1, -⟩ := HMO.out.2.1; exact (q1.lt g hg).2)
      have HQ9 : Hid (Mx w9 w2.heap.size v8 u9 (i + 1) z P ∧ Dj v8 u9 ∧ Ar w9 (.slice adB (z (i + 1)) caB) (z (i + 1)) (fun u => P (ofN z i u)) ∧ (∀ g, v8.ownBlock = some g → Nb (.slice adB (z (i + 1)) caB) g) ∧ (∀ g, u9.ownBlock = some g → Nb (.slice adB (z (i + 1)) caB) g) ∧ Below w2.heap.size w2 w9) := ⟨HM9, HMO.out.2.2, hA9, nB8, nB9, bchain HB8.out h9⟩
      have hs29 : w2.heap.size ≤ w9.heap.size := HQ9.out.2.2.2.2.2.size
      clear CB HMO HM9 hA9 hO9 h9 nb9 nB8 nB9 HB8 e83
      go_wp2_with (at_builtin; refine wpList_append_own_at _ rfl _ _ 31 rfl w2.heap.size 23 i1 (.slice none 0 0) 1 24 Tryz.underlying31 hti1 hy3 hy4 hy5 rfl (by decide) _ _ _ rfl (hr9.alloc _) ⟨w9.heap.size, 0, none⟩ 1 1 [.slice adB (z (i + 1)) caB] rfl rfl (cell_one_new _ _ _) (by simp [Value.oneCell']) (by unfold maxLen; omega) (by omega) (by rw [World.size_alloc]; omega) ?_; intro v9 wA hown' hgrow hnil hat)
      have hMO := ox_grow HQ9.out.1 hr9 hq9 HQ9.out.2.1 HQ9.out.2.2.1 HQ9.out.2.2.2.1 HQ9.out.2.2.2.2.1 hown' hgrow hat
      have HMA : Hid (Mx wA w2.heap.size v8 v9 (i + 1) z P) := hMO.1
      have HOA : Hid (Ox wA w2.heap.size v9 v8 (i + 1) z P) := hMO.2.1
      have HDA : Hid (Dj v8 v9) := hMO.2.2
      have HBA : Hid (Below w2.heap.size w2 wA) := below_own HQ9.out.2.2.2.2.2 hs29 hr9 hgrow
      clear hMO hr9 hq9 hown' hgrow hnil hat HQ9
      go_wp2
      go_roundw
      case rel => exact ⟨i + 1, by omega, by go_num, HMA, HOA, HDA, HBA⟩
      case measure => simp [intOf]; omega
    · obtain rfl : i = M := by omega
      have hiI : ¬ (i : Int) < (i : Int) := by omega
      obtain ⟨gm, cm, gb, cb, hu8, hu9, q1, q2, q3⟩ := spl_of HMx.out HOx.out (by omega)
      subst hu8 hu9
      have HQ : Hid ((i ≤ cm ∧ cm ≤ maxLen) ∧ (i ≤ cb ∧ cb ≤ maxLen) ∧ Spl wo gm 0 gb 0 m z P ∧ Below wz.heap.size wz wo) := ⟨q1, q2, by rw [HM.out]; exact q3, bchain HB2.out HBo.out⟩
      clear HMx HOx HDj q1 q2 q3
      go_wp2
      go_ret3
      exact ⟨gm, cm, gb, cb, rfl, HQ.out.1, HQ.out.2.1, HQ.out.2.2.1, HQ.out.2.2.2⟩
theorem mlp6 : Mlp6 where
  countY := fun vs m z w hS hz hV => (pCount_yes vs m z w hS hz).mono fun e w' h => ⟨h.1, by rw [h.2]; exact Below.refl _ _⟩
  countN := fun vs m f w hm hS hz hV => (pCount_no vs m f w hS hz).mono fun e w' h => ⟨h.1, by rw [h.2]; exact Below.refl _ _⟩
  splitY := fun vs vp m cp z P w hS hP hz hcp hV => by
    have hcp2 : 0 < cp := by have h1 := fsN_mono z (show 1 ≤ m - 1 by have := hz.1; omega); have h2 := (lyN_le z m 0 hz.2.2 (by have := hz.1; omega)).2; have h3 : fsN z 1 = 0 + lyN z 0 := rfl; omega
    obtain ⟨adr, cap, b, o, rfl, -, -, h4, -⟩ := id hP
    have e := h4 hcp2
    subst e
    exact (pSplit_ok vs m b o cp cap z P w hS hP hz hcp).mono fun e w' ⟨gm, cm, gb, cb, h1, h2, h3, h4, h5⟩ => ⟨gm, 0, cm, gb, 0, cb, h1, h2, h3, h4, h5⟩
  splitZ := fun vs vp m lp f P w hm hS hP hz hV => (pSplit_bad vs vp 70 (by omega) w (by obtain ⟨a, c, b, o, e, -⟩ := hS; exact ⟨a, m, c, e⟩) (by obtain ⟨a, c, b, o, e, -⟩ := hP; exact ⟨a, lp, c, e⟩) (pChk_no vs vp m lp f P w hS hP hz)).mono fun e w' h => ⟨_, _, h.1, ⟨none, 0, rfl⟩, ⟨none, 0, rfl⟩, by rw [h.2]; exact Below.refl _ _⟩
  splitS := fun vs vp m lp z P w hS hP hz hb hV => by
    have h := pChk_yes vs vp m lp z P w hS hP hz
    rw [if_neg hb] at h
    exact (pSplit_bad vs vp 40 (by omega) w (by obtain ⟨a, c, b, o, e, -⟩ := hS; exact ⟨a, m, c, e⟩) (by obtain ⟨a, c, b, o, e, -⟩ := hP; exact ⟨a, lp, c, e⟩) h).mono fun e w' h => ⟨_, _, h.1, ⟨none, 0, rfl⟩, ⟨none, 0, rfl⟩, by rw [h.2]; exact Below.refl _ _⟩
end Go.Proofs.YtdfjnbkkdgolnaaGreatDoor
