/-
  The laws of layer 11: CrcLaid.
-/
import Derived.Test.YtghbmokhilfjcaaDoorLawCD
set_option linter.unusedVariables false
set_option linter.unusedSimpArgs false
namespace Go.Proofs.YtghbmokhilfjcaaDoor
open Go.RowKit

/-- Three cells of a struct. -/
structure B3 (b : Nat) (x y z : Value) (w : World) : Prop where
  c0 : w.cell? ⟨b, 0, none⟩ = some x
  c1 : w.cell? ⟨b, 1, none⟩ = some y
  c2 : w.cell? ⟨b, 2, none⟩ = some z
theorem B3.later {b : Nat} {x y z : Value} {w w' : World} (h : B3 b x y z w) (hb : Below w.heap.size w w') : B3 b x y z w' := ⟨cell_later hb h.c0, cell_later hb h.c1, cell_later hb h.c2⟩
theorem B3.lt {b : Nat} {x y z : Value} {w : World} (h : B3 b x y z w) : b < w.heap.size := World.block_lt_of_cell? _ _ h.c0
theorem B3.new (w : World) (x y z : Value) (t : TypeId) : B3 w.heap.size x y z (w.alloc (.cells #[x, y, z] t)) := ⟨by simp [go_sem], by simp [go_sem], by simp [go_sem]⟩
theorem B3.far {b : Nat} {x y z : Value} {w : World} (h : B3 b x y z w) (p : Addr) (u : Value) (hp : p.block ≠ b) : B3 b x y z (w.setCell p u) := ⟨cell_set hp h.c0, cell_set hp h.c1, cell_set hp h.c2⟩
/-- So far laid over one another. -/
def l3F (f g h : Nat → Nat) (j : Nat) : Nat → Nat := fun k => if k < j then f k ^^^ g k ^^^ h k else 0
theorem l3_step (f g h : Nat → Nat) (j k : Nat) : (if k = j then f j ^^^ g j ^^^ h j else l3F f g h j k) = l3F f g h (j + 1) k := by
  unfold l3F
  by_cases e : k = j
  · subst e
    rw [if_pos rfl, if_pos (by omega)]
  · rw [if_neg e]
    by_cases e2 : k < j
    · rw [if_pos e2, if_pos (by omega)]
    · rw [if_neg e2, if_neg (by omega)]
theorem make_by (n : Nat) (hn : n ≤ 1000000) (w : World) : (Instr.makeSlice 24 (.int .i64 (n : Int)) (.int .i64 (n : Int))).run Tryd.prog w = .ok (.slice (some ⟨w.heap.size, 0, none⟩) n n) (w.alloc (.cells (madeCells #[.int .u8 0] n) 5)) := by
  obtain ⟨i0, hi, hz0, hz1, hz2⟩ := info_parts dinfo_byte
  have h := run_make (P := Tryd.prog) w 24 5 i0 (.int .u8 0) Tryd.underlying24 hi hz0 .i64 .i64 (n : Int) (n : Int) (by omega) (by omega) (by rw [hz2]; omega) (by omega)
  rw [hz1, Nat.mul_one] at h
  exact h
/-- The law's frame in its last region. -/
def fr11 (A B C D : Value) (b0 j : Nat) (u4 u37 u38 u39 u40 u41 u42 u43 u44 u45 u46 u47 u48 u49 u50 u51 u52 u53 u54 u55 u56 u57 u58 x60 x61 x64 x65 x68 x69 x70 x73 x74 : Value) : Act := { tmps := #[.agg #[A, B, C], .pointer (some ⟨b0, 0, none⟩), .bool false, D, u4, .bool true, .bool false, .pointer (some ⟨b0, 0, none⟩), A, .int .i64 (j : Int), .bool (decide (1000 < (j : Int))), .bool (decide (1000 < (j : Int))), .pointer (some ⟨b0, 1, none⟩), B, .int .i64 (j : Int), .pointer (some ⟨b0, 0, none⟩), A, .int .i64 (j : Int), .bool false, .bool (decide (1000 < (j : Int))), .bool (decide (1000 < (j : Int))), .pointer (some ⟨b0, 2, none⟩), C, .int .i64 (j : Int), .pointer (some ⟨b0, 0, none⟩), A, .int .i64 (j : Int), .bool false, .bool (decide (1000 < (j : Int))), .pointer (some ⟨b0, 0, none⟩), A, .int .i64 (j : Int), D, D, .int .i64 (j : Int), .int .i64 (j : Int), .bool false, u37, u38, u39, u40, u41, u42, u43, u44, u45, u46, u47, u48, u49, u50, u51, u52, u53, u54, u55, u56, u57, u58, D, x60, x61, .pointer (some ⟨b0, 0, none⟩), A, x64, x65, .pointer (some ⟨b0, 1, none⟩), B, x68, x69, x70, .pointer (some ⟨b0, 2, none⟩), C, x73, x74, undef, undef], defers := [] }
/-- A list of one text. -/
def Bt (W : World) (x n : Nat) (f : Nat → Nat) : Prop := Lb W (.slice (some ⟨x, 0, none⟩) 1 1) 1 (fun _ => n) (fun _ => f)
theorem Bt.later {W W' : World} {x n : Nat} {f : Nat → Nat} (h : Bt W x n f) (hb : Below W.heap.size W W') : Bt W' x n f := Lb.later h hb
/-- The law's state in its last region. -/
structure G11 (w : World) (b0 : Nat) (A B C D : Value) (n : Nat) (F : Nat → Nat) (W : World) : Prop where
  U : Below w.heap.size w W
  X : B3 b0 A B C W
  L : Ls W D n (by8 F)
theorem G11.later {w : World} {b0 : Nat} {A B C D : Value} {n : Nat} {F : Nat → Nat} {W W' : World} (h : G11 w b0 A B C D n F W) (hb : Below W.heap.size W W') : G11 w b0 A B C D n F W' := ⟨bchain h.U hb, h.X.later hb, h.L.later hb⟩
theorem hidI {p : Prop} (h : p) : Hid p := h
theorem any_cutH {α : Type} {P : Program} {ops : Array Oper} {Q : Exit → Act → World → Prop} {md : Region.Mode} {S : World → Prop} {fuel : Nat} {listed : Array Bool} {a : Act} {w : World} (fuel' : Nat) (listed' : Array Bool) (a' : α → Act) (F : α → World → Prop) (tail : ∀ x W, F x W → wpAnyH P md ops Q S fuel' listed' (a' x) W) (h : Hid (∀ x W, F x W → wpAnyH P md ops Q S fuel' listed' (a' x) W) → wpAnyH P md ops Q S fuel listed a w) : wpAnyH P md ops Q S fuel listed a w := h tail
theorem anyH_eq {P : Program} {ops : Array Oper} {Q : Exit → Act → World → Prop} {md : Region.Mode} {S : World → Prop} {fuel : Nat} {listed listed' : Array Bool} {a : Act} {w : World} (e : listed = listed') (h : wpAnyH P md ops Q S fuel listed' a w) : wpAnyH P md ops Q S fuel listed a w := by rw [e]; exact h
set_option maxRecDepth 100000 in
set_option maxHeartbeats 8000000 in
theorem crcLaid_any (V : Crc1) (va vb vc : Value) (n n2 n3 : Nat) (f g h : Nat → Nat) (hf : ∀ k, f k < 256) (hg : ∀ k, g k < 256) (hh : ∀ k, h k < 256) (w : World) (hA : Ls w va n (by8 f)) (hB : Ls w vb n2 (by8 g)) (hC : Ls w vc n3 (by8 h)) (hT : TbAt w) :
    Calls Tryd.prog 8 #[.agg #[va, vb, vc]] w fun e w' => e = .returned (.bool true) ∧ Below w.heap.size w w' := by
  have HA : Hid (Ls w va n (by8 f)) := hA
  have HB : Hid (Ls w vb n2 (by8 g)) := hB
  have HC : Hid (Ls w vc n3 (by8 h)) := hC
  have HT : Hid (TbAt w) := hT
  obtain ⟨ad1, ca1, rfl, l1, l2⟩ := hA.len
  obtain ⟨ad2, ca2, rfl, l3, l4⟩ := hB.len
  obtain ⟨ad3, ca3, rfl, l5, l6⟩ := hC.len
  unfold maxLen at l2 l4 l6
  clear hA hB hC hT
  obtain ⟨w0, hw0⟩ : ∃ w0, w0 = w.alloc (.cells #[.slice ad1 n ca1, .slice ad2 n2 ca2, .slice ad3 n3 ca3] 40) := ⟨_, rfl⟩
  have HB0 : Hid (Below w.heap.size w w0) := by rw [hw0]; exact bel1 _ _
  have HX : B3 w.heap.size (.slice ad1 n ca1) (.slice ad2 n2 ca2) (.slice ad3 n3 ca3) w0 := by rw [hw0]; exact B3.new _ _ _ _ _
  go_enter Tryd.func8, Tryd.ntmps8
  go_upto_region 1 with fail
  rw [← hw0]
  clear hw0
  go_wp2_with fail
  refine (awake11 V _ (HT.out.later HB0.out)).mono ?_
  rintro e w1 ⟨rfl, hb⟩
  have HB1 : Hid (Below w.heap.size w w1) := bchain HB0.out hb
  replace HX := HX.later hb
  clear hb HB0
  have x0 := HX.c0
  have x1 := HX.c1
  have x2 := HX.c2
  by_cases hn : 1000 < n
  · have hn' : (1000 : Int) < (n : Int) := by omega
    go_wp2
    go_ret
    exact ⟨rfl, HB1.out⟩
  have hn' : ¬ (1000 : Int) < (n : Int) := by omega
  by_cases h2 : ¬ n2 = n
  · have h2' : ((n2 : Int) != (n : Int)) = true := by simp; omega
    go_wp2
    go_ret
    exact ⟨rfl, HB1.out⟩
  replace h2 : n2 = n := by omega
  subst n2
  by_cases h3 : ¬ n3 = n
  · have h3' : ((n3 : Int) != (n : Int)) = true := by simp; omega
    go_wp2
    go_ret
    exact ⟨rfl, HB1.out⟩
  replace h3 : n3 = n := by omega
  subst n3
  have hmk := make_by n (by omega)
  go_upto_region 6 with fail
  clear hmk x0 x1 x2
  have HR0 : Hid (Rw w1.heap.size n (by8 (l3F f g h 0)) (w1.alloc (.cells (madeCells #[.int .u8 0] n) 5))) := (Rw.made w1 (.int .u8 0) n 5).congr (fun k _ => by unfold by8 l3F; rw [if_neg (by omega)]; rfl)
  have HX0 : Hid (B3 w.heap.size (.slice ad1 n ca1) (.slice ad2 n ca2) (.slice ad3 n ca3) (w1.alloc (.cells (madeCells #[.int .u8 0] n) 5))) := HX.later (bel1 _ _)
  have hlt := HX.lt
  have HB2 : Hid (Below w.heap.size w (w1.alloc (.cells (madeCells #[.int .u8 0] n) 5))) := bchain HB1.out (bel1 _ _)
  clear HX HB1
  generalize w1.alloc (.cells (madeCells #[.int .u8 0] n) 5) = w2 at *
  obtain ⟨gd, hgd⟩ : ∃ gd, w1.heap.size = gd := ⟨_, rfl⟩
  rw [hgd] at HR0 hlt
  try simp only [hgd]
  clear hgd
  go_upto_region 7 with fail
  go_loopw [35] (fun si wr => ∃ j : Nat, j ≤ n ∧ si = .int .i64 (j : Int) ∧ Hid (Rw gd n (by8 (l3F f g h j)) wr ∧ Below w.heap.size w wr ∧ B3 w.heap.size (.slice ad1 n ca1) (.slice ad2 n ca2) (.slice ad3 n ca3) wr)) (fun si _ => n - (intOf si).toNat)
  case atStart => exact ⟨0, by omega, rfl, HR0.out, HB2.out, HX0.out⟩
  case round =>
    clear HR0 HB2 HX0
    obtain ⟨j, hj, rfl, HR⟩ := hrel
    by_cases hj2 : j < n
    · have hjI : (j : Int) < (n : Int) := by omega
      have hcd : wr.cell? ⟨gd, j, none⟩ = some (.int .u8 ((l3F f g h j j : Nat) : Int)) := HR.out.1.c j hj2
      have hfd := HR.out.1.f j hj2
      obtain ⟨b1, o1, cp1, e1, ha0⟩ := HA.out.spot j hj2
      obtain ⟨b2, o2, cp2, e2, hb0⟩ := HB.out.spot j hj2
      obtain ⟨b3, o3, cp3, e3, hc0⟩ := HC.out.spot j hj2
      cases e1
      cases e2
      cases e3
      unfold by8 at ha0 hb0 hc0
      have hm1 : b1 < w.heap.size := World.block_lt_of_cell? _ _ ha0
      have hm2 : b2 < w.heap.size := World.block_lt_of_cell? _ _ hb0
      have hm3 : b3 < w.heap.size := World.block_lt_of_cell? _ _ hc0
      have hx1 := xor8 (f j) (g j) (hf j) (hg j)
      have hx2 := xor8 (f j ^^^ g j) (h j) (Nat.xor_lt_two_pow (n := 8) (hf j) (hg j)) (hh j)
      have hbD : Below wr.heap.size wr wr.drew := (Below.refl _ _).drew
      have HBD : Hid (Below w.heap.size w wr.drew) := bchain HR.out.2.1 hbD
      have HXD : B3 w.heap.size (.slice (some ⟨b1, o1, none⟩) n ca1) (.slice (some ⟨b2, o2, none⟩) n ca2) (.slice (some ⟨b3, o3, none⟩) n ca3) wr.drew := HR.out.2.2.later hbD
      have HRD : Hid (Rw gd n (by8 (l3F f g h j)) wr.drew) := HR.out.1.later hbD
      have hcD : wr.drew.cell? ⟨gd, j, none⟩ = some (.int .u8 ((l3F f g h j j : Nat) : Int)) := hcd
      have hfD : wr.drew.frozen? ⟨gd, j, none⟩ = false := hfd
      have hS0 : B3 w.heap.size (.slice (some ⟨b1, o1, none⟩) n ca1) (.slice (some ⟨b2, o2, none⟩) n ca2) (.slice (some ⟨b3, o3, none⟩) n ca3) wr.drew ∧ wr.drew.cell? ⟨b1, o1 + j, none⟩ = some (.int .u8 ((f j : Nat) : Int)) ∧ wr.drew.cell? ⟨b2, o2 + j, none⟩ = some (.int .u8 ((g j : Nat) : Int)) ∧ wr.drew.cell? ⟨b3, o3 + j, none⟩ = some (.int .u8 ((h j : Nat) : Int)) := ⟨HXD, cell_later HBD.out ha0, cell_later HBD.out hb0, cell_later HBD.out hc0⟩
      go_upto_region 9 with fail
      refine wp_region_held_drew (S := fun W => B3 w.heap.size (.slice (some ⟨b1, o1, none⟩) n ca1) (.slice (some ⟨b2, o2, none⟩) n ca2) (.slice (some ⟨b3, o3, none⟩) n ca3) W ∧ W.cell? ⟨b1, o1 + j, none⟩ = some (.int .u8 ((f j : Nat) : Int)) ∧ W.cell? ⟨b2, o2 + j, none⟩ = some (.int .u8 ((g j : Nat) : Int)) ∧ W.cell? ⟨b3, o3 + j, none⟩ = some (.int .u8 ((h j : Nat) : Int))) (by kernel_rfl) hS0 (fun HS => ?_)
      clear hcd hfd HR hbD hS0 ha0 hb0 hc0 HXD
      generalize wr.drew = q0 at *
      refine wpAnyH_take (i := 0) (v := ?_) rfl (by kernel_rfl) (by kernel_rfl) (by kernel_rfl) (fun _ _ _ h => h) (Or.inl ⟨by kernel_rfl, ?_⟩) HS ?_
      rotate_left
      · (rintro w ⟨⟨y0, y1, y2⟩, y3, y4, y5⟩; go_simp) <;> with_reducible rfl
      try simp only [Act.put, List.getElem_toArray, List.getElem_cons_succ, List.getElem_cons_zero, List.setIfInBounds_toArray, List.set_cons_zero, List.set_cons_succ]
      refine wpAnyH_take (i := 1) (v := ?_) rfl (by kernel_rfl) (by kernel_rfl) (by kernel_rfl) (fun _ _ _ h => h) (Or.inl ⟨by kernel_rfl, ?_⟩) HS ?_
      rotate_left
      · (rintro w ⟨⟨y0, y1, y2⟩, y3, y4, y5⟩; go_simp) <;> with_reducible rfl
      try simp only [Act.put, List.getElem_toArray, List.getElem_cons_succ, List.getElem_cons_zero, List.setIfInBounds_toArray, List.set_cons_zero, List.set_cons_succ]
      refine wpAnyH_take (i := 2) (v := ?_) rfl (by kernel_rfl) (by kernel_rfl) (by kernel_rfl) (fun _ _ _ h => h) (Or.inl ⟨by kernel_rfl, ?_⟩) HS ?_
      rotate_left
      · (rintro w ⟨⟨y0, y1, y2⟩, y3, y4, y5⟩; go_simp) <;> with_reducible rfl
      try simp only [Act.put, List.getElem_toArray, List.getElem_cons_succ, List.getElem_cons_zero, List.setIfInBounds_toArray, List.set_cons_zero, List.set_cons_succ]
      refine wpAnyH_take (i := 3) (v := ?_) rfl (by kernel_rfl) (by kernel_rfl) (by kernel_rfl) (fun _ _ _ h => h) (Or.inl ⟨by kernel_rfl, ?_⟩) HS ?_
      rotate_left
      · (rintro w ⟨⟨y0, y1, y2⟩, y3, y4, y5⟩; go_simp) <;> with_reducible rfl
      try simp only [Act.put, List.getElem_toArray, List.getElem_cons_succ, List.getElem_cons_zero, List.setIfInBounds_toArray, List.set_cons_zero, List.set_cons_succ]
      refine wpAnyH_take (i := 4) (v := ?_) rfl (by kernel_rfl) (by kernel_rfl) (by kernel_rfl) (fun _ _ _ h => h) (Or.inl ⟨by kernel_rfl, ?_⟩) HS ?_
      rotate_left
      · (rintro w ⟨⟨y0, y1, y2⟩, y3, y4, y5⟩; go_simp) <;> with_reducible rfl
      try simp only [Act.put, List.getElem_toArray, List.getElem_cons_succ, List.getElem_cons_zero, List.setIfInBounds_toArray, List.set_cons_zero, List.set_cons_succ]
      refine wpAnyH_take (i := 5) (v := ?_) rfl (by kernel_rfl) (by kernel_rfl) (by kernel_rfl) (fun _ _ _ h => h) (Or.inl ⟨by kernel_rfl, ?_⟩) HS ?_
      rotate_left
      · (rintro w ⟨⟨y0, y1, y2⟩, y3, y4, y5⟩; go_simp) <;> with_reducible rfl
      try simp only [Act.put, List.getElem_toArray, List.getElem_cons_succ, List.getElem_cons_zero, List.setIfInBounds_toArray, List.set_cons_zero, List.set_cons_succ]
      refine wpAnyH_take (i := 6) (v := ?_) rfl (by kernel_rfl) (by kernel_rfl) (by kernel_rfl) (fun _ _ _ h => h) (Or.inl ⟨by kernel_rfl, ?_⟩) HS ?_
      rotate_left
      · (rintro w ⟨⟨y0, y1, y2⟩, y3, y4, y5⟩; go_simp) <;> with_reducible rfl
      try simp only [Act.put, List.getElem_toArray, List.getElem_cons_succ, List.getElem_cons_zero, List.setIfInBounds_toArray, List.set_cons_zero, List.set_cons_succ]
      refine wpAnyH_take (i := 7) (v := ?_) rfl (by kernel_rfl) (by kernel_rfl) (by kernel_rfl) (fun _ _ _ h => h) (Or.inl ⟨by kernel_rfl, ?_⟩) HS ?_
      rotate_left
      · (rintro w ⟨⟨y0, y1, y2⟩, y3, y4, y5⟩; go_simp) <;> with_reducible rfl
      try simp only [Act.put, List.getElem_toArray, List.getElem_cons_succ, List.getElem_cons_zero, List.setIfInBounds_toArray, List.set_cons_zero, List.set_cons_succ]
      refine wpAnyH_take (i := 8) (v := ?_) rfl (by kernel_rfl) (by kernel_rfl) (by kernel_rfl) (fun _ _ _ h => h) (Or.inl ⟨by kernel_rfl, ?_⟩) HS ?_
      rotate_left
      · (rintro w ⟨⟨y0, y1, y2⟩, y3, y4, y5⟩; go_simp) <;> with_reducible rfl
      try simp only [Act.put, List.getElem_toArray, List.getElem_cons_succ, List.getElem_cons_zero, List.setIfInBounds_toArray, List.set_cons_zero, List.set_cons_succ]
      refine wpAnyH_take (i := 9) (v := ?_) rfl (by kernel_rfl) (by kernel_rfl) (by kernel_rfl) (fun _ _ _ h => h) (Or.inl ⟨by kernel_rfl, ?_⟩) HS ?_
      rotate_left
      · (rintro w ⟨⟨y0, y1, y2⟩, y3, y4, y5⟩; go_simp) <;> with_reducible rfl
      try simp only [Act.put, List.getElem_toArray, List.getElem_cons_succ, List.getElem_cons_zero, List.setIfInBounds_toArray, List.set_cons_zero, List.set_cons_succ]
      refine wpAnyH_take (i := 10) (v := ?_) rfl (by kernel_rfl) (by kernel_rfl) (by kernel_rfl) (fun _ _ _ h => h) (Or.inl ⟨by kernel_rfl, ?_⟩) HS ?_
      rotate_left
      · (rintro w ⟨⟨y0, y1, y2⟩, y3, y4, y5⟩; go_simp) <;> with_reducible rfl
      try simp only [Act.put, List.getElem_toArray, List.getElem_cons_succ, List.getElem_cons_zero, List.setIfInBounds_toArray, List.set_cons_zero, List.set_cons_succ]
      refine wpAnyH_take (i := 11) (v := ?_) rfl (by kernel_rfl) (by kernel_rfl) (by kernel_rfl) (fun _ _ _ h => h) (Or.inl ⟨by kernel_rfl, ?_⟩) HS ?_
      rotate_left
      · (rintro w ⟨⟨y0, y1, y2⟩, y3, y4, y5⟩; go_simp) <;> with_reducible rfl
      try simp only [Act.put, List.getElem_toArray, List.getElem_cons_succ, List.getElem_cons_zero, List.setIfInBounds_toArray, List.set_cons_zero, List.set_cons_succ]
      refine wpAnyH_take (i := 12) (v := ?_) rfl (by kernel_rfl) (by kernel_rfl) (by kernel_rfl) (fun _ _ _ h => h) (Or.inl ⟨by kernel_rfl, ?_⟩) HS ?_
      rotate_left
      · (rintro w ⟨⟨y0, y1, y2⟩, y3, y4, y5⟩; go_simp) <;> with_reducible rfl
      try simp only [Act.put, List.getElem_toArray, List.getElem_cons_succ, List.getElem_cons_zero, List.setIfInBounds_toArray, List.set_cons_zero, List.set_cons_succ]
      refine wpAnyH_take (i := 13) (v := ?_) rfl (by kernel_rfl) (by kernel_rfl) (by kernel_rfl) (fun _ _ _ h => h) (Or.inl ⟨by kernel_rfl, ?_⟩) HS ?_
      rotate_left
      · (rintro w ⟨⟨y0, y1, y2⟩, y3, y4, y5⟩; go_simp) <;> with_reducible rfl
      try simp only [Act.put, List.getElem_toArray, List.getElem_cons_succ, List.getElem_cons_zero, List.setIfInBounds_toArray, List.set_cons_zero, List.set_cons_succ]
      refine wpAnyH_take (i := 14) (v := ?_) rfl (by kernel_rfl) (by kernel_rfl) (by kernel_rfl) (fun _ _ _ h => h) (Or.inl ⟨by kernel_rfl, ?_⟩) HS ?_
      rotate_left
      · (rintro w ⟨⟨y0, y1, y2⟩, y3, y4, y5⟩; go_simp) <;> with_reducible rfl
      try simp only [Act.put, List.getElem_toArray, List.getElem_cons_succ, List.getElem_cons_zero, List.setIfInBounds_toArray, List.set_cons_zero, List.set_cons_succ]
      refine wpAnyH_take (i := 15) (v := ?_) rfl (by kernel_rfl) (by kernel_rfl) (by kernel_rfl) (fun _ _ _ h => h) (Or.inl ⟨by kernel_rfl, ?_⟩) HS ?_
      rotate_left
      · (rintro w ⟨⟨y0, y1, y2⟩, y3, y4, y5⟩; go_simp) <;> with_reducible rfl
      try simp only [Act.put, List.getElem_toArray, List.getElem_cons_succ, List.getElem_cons_zero, List.setIfInBounds_toArray, List.set_cons_zero, List.set_cons_succ]
      refine wpAnyH_take (i := 16) (v := ?_) rfl (by kernel_rfl) (by kernel_rfl) (by kernel_rfl) (fun _ _ _ h => h) (Or.inl ⟨by kernel_rfl, ?_⟩) HS ?_
      rotate_left
      · (rintro w ⟨⟨y0, y1, y2⟩, y3, y4, y5⟩; go_simp) <;> with_reducible rfl
      try simp only [Act.put, List.getElem_toArray, List.getElem_cons_succ, List.getElem_cons_zero, List.setIfInBounds_toArray, List.set_cons_zero, List.set_cons_succ]
      refine wpAnyH_take (i := 17) (v := ?_) rfl (by kernel_rfl) (by kernel_rfl) (by kernel_rfl) (fun _ _ _ h => h) (Or.inl ⟨by kernel_rfl, ?_⟩) HS ?_
      rotate_left
      · (rintro w ⟨⟨y0, y1, y2⟩, y3, y4, y5⟩; go_simp) <;> with_reducible rfl
      try simp only [Act.put, List.getElem_toArray, List.getElem_cons_succ, List.getElem_cons_zero, List.setIfInBounds_toArray, List.set_cons_zero, List.set_cons_succ]
      refine wpAnyH_take (i := 18) (v := ?_) rfl (by kernel_rfl) (by kernel_rfl) (by kernel_rfl) (fun _ _ _ h => h) (Or.inl ⟨by kernel_rfl, ?_⟩) HS ?_
      rotate_left
      · (rintro w ⟨⟨y0, y1, y2⟩, y3, y4, y5⟩; go_simp) <;> with_reducible rfl
      try simp only [Act.put, List.getElem_toArray, List.getElem_cons_succ, List.getElem_cons_zero, List.setIfInBounds_toArray, List.set_cons_zero, List.set_cons_succ]
      refine wpAnyH_take (i := 19) (v := ?_) rfl (by kernel_rfl) (by kernel_rfl) (by kernel_rfl) (fun _ _ _ h => h) (Or.inl ⟨by kernel_rfl, ?_⟩) HS ?_
      rotate_left
      · (rintro w ⟨⟨y0, y1, y2⟩, y3, y4, y5⟩; go_simp) <;> with_reducible rfl
      try simp only [Act.put, List.getElem_toArray, List.getElem_cons_succ, List.getElem_cons_zero, List.setIfInBounds_toArray, List.set_cons_zero, List.set_cons_succ]
      refine wpAnyH_ready (rs := [20]) (by kernel_rfl) (by simp) ?_
      refine AllReadyH.cons rfl (fun K hK => ?_) AllReadyH.nil
      go_simp
      refine hK.out _ _ ⟨HS.1.far _ _ (by dsimp only; omega), cell_set (by dsimp only; omega) HS.2.1, cell_set (by dsimp only; omega) HS.2.2.1, cell_set (by dsimp only; omega) HS.2.2.2⟩ (fun HS2 => ?_)
      clear hK K
      refine wpAnyH_done (by kernel_rfl) ?_ _
      have HR1 : Hid (Rw gd n (by8 (l3F f g h (j + 1))) (q0.setCell ⟨gd, j, none⟩ (.int .u8 ((f j ^^^ g j ^^^ h j : Nat) : Int))) ∧ Below w.heap.size w (q0.setCell ⟨gd, j, none⟩ (.int .u8 ((f j ^^^ g j ^^^ h j : Nat) : Int))) ∧ B3 w.heap.size (.slice (some ⟨b1, o1, none⟩) n ca1) (.slice (some ⟨b2, o2, none⟩) n ca2) (.slice (some ⟨b3, o3, none⟩) n ca3) (q0.setCell ⟨gd, j, none⟩ (.int .u8 ((f j ^^^ g j ^^^ h j : Nat) : Int)))) := ⟨by_congr (by_set HRD.out j _) (fun k _ => l3_step f g h j k), HBD.out.setCell (by dsimp only; omega) _, HS.1.far _ _ (by dsimp only; omega)⟩
      clear HS HS2 HRD HBD hcD hfD
      go_wp2
      go_roundw
      case rel => exact ⟨j + 1, by omega, by go_num, HR1⟩
      case measure => simp [intOf]; omega
    · obtain rfl : j = n := by omega
      have hjI : ¬ (j : Int) < (j : Int) := by omega
      go_upto_region 11 with fail
      have hbD : Below wr.heap.size wr wr.drew := (Below.refl _ _).drew
      have hgd : Ls wr (.slice (some ⟨gd, 0, none⟩) j j) j (by8 (fun i => f i ^^^ g i ^^^ h i)) := (HR.out.1.ls 0 j j (by omega) (Nat.le_refl _) (by unfold maxLen; omega)).congr (fun k hk => by unfold by8 l3F; dsimp only; rw [Nat.zero_add, if_pos hk])
      have hfd : ∀ k, f k ^^^ g k ^^^ h k < 256 := fun k => Nat.xor_lt_two_pow (n := 8) (Nat.xor_lt_two_pow (n := 8) (hf k) (hg k)) (hh k)
      have hX1 := xor32 (cS f j) (cS g j) (cS_lt f j) (cS_lt g j)
      have hX2 := xor32 (cS f j ^^^ cS g j) (cS h j) (Nat.xor_lt_two_pow (n := 32) (cS_lt f j) (cS_lt g j)) (cS_lt h j)
      rw [← three_laid f g h j] at hX2
      obtain ⟨fd, hfd'⟩ : ∃ fd : Nat → Nat, fd = fun i => f i ^^^ g i ^^^ h i := ⟨_, rfl⟩
      rw [← hfd'] at hX2 hgd
      replace hfd : ∀ k, fd k < 256 := fun k => by rw [hfd']; exact hfd k
      clear hfd'
      obtain ⟨b0, hb0⟩ : ∃ b0, w.heap.size = b0 := ⟨_, rfl⟩
      have HG0 : Hid (G11 w b0 (.slice ad1 j ca1) (.slice ad2 j ca2) (.slice ad3 j ca3) (.slice (some ⟨gd, 0, none⟩) j j) j fd wr.drew) := ⟨bchain HR.out.2.1 hbD, by rw [← hb0]; exact HR.out.2.2.later hbD, hgd.later hbD⟩
      have LB0 : Hid (∀ W : World, G11 w b0 (.slice ad1 j ca1) (.slice ad2 j ca2) (.slice ad3 j ca3) (.slice (some ⟨gd, 0, none⟩) j j) j fd W → Bt (W.alloc (.cells #[.slice (some ⟨gd, 0, none⟩) j j] 24)) W.heap.size j fd) := fun W G => lb_one W _ j j fd _ G.L
      have LB1 : Hid (∀ W : World, G11 w b0 (.slice ad1 j ca1) (.slice ad2 j ca2) (.slice ad3 j ca3) (.slice (some ⟨gd, 0, none⟩) j j) j fd W → Bt (W.alloc (.cells #[.slice ad1 j ca1] 24)) W.heap.size j f) := fun W G => lb_one W _ j ca1 f _ (HA.out.later G.U)
      have LB2 : Hid (∀ W : World, G11 w b0 (.slice ad1 j ca1) (.slice ad2 j ca2) (.slice ad3 j ca3) (.slice (some ⟨gd, 0, none⟩) j j) j fd W → Bt (W.alloc (.cells #[.slice ad2 j ca2] 24)) W.heap.size j g) := fun W G => lb_one W _ j ca2 g _ (HB.out.later G.U)
      have LB3 : Hid (∀ W : World, G11 w b0 (.slice ad1 j ca1) (.slice ad2 j ca2) (.slice ad3 j ca3) (.slice (some ⟨gd, 0, none⟩) j j) j fd W → Bt (W.alloc (.cells #[.slice ad3 j ca3] 24)) W.heap.size j h) := fun W G => lb_one W _ j ca3 h _ (HC.out.later G.U)
      have CO : ∀ (F : Nat → Nat), (∀ k, F k < 256) → ∀ (W : World) (x : Nat), G11 w b0 (.slice ad1 j ca1) (.slice ad2 j ca2) (.slice ad3 j ca3) (.slice (some ⟨gd, 0, none⟩) j j) j fd W → Bt W x j F → Calls Tryd.prog 10 #[.slice (some ⟨x, 0, none⟩) 1 1] W fun e w' => e = .returned (.int .u32 ((cS F j : Nat) : Int)) ∧ Below W.heap.size W w' := fun F hF W x G l => (V.of _ 1 _ _ _ (by omega) (fun _ => by omega) (fun _ k => hF k) (HT.out.later G.U) l).mono fun e w' h => ⟨h.1, h.2⟩
      have CO0 := CO fd hfd
      have CO1 := CO f hf
      have CO2 := CO g hg
      have CO3 := CO h hh
      generalize cS fd j = s0 at *
      generalize cS f j ^^^ cS g j = s12 at *
      generalize cS f j = s1 at *
      generalize cS g j = s2 at *
      generalize cS h j = s3 at *
      replace CO0 := hidI CO0
      replace CO1 := hidI CO1
      replace CO2 := hidI CO2
      replace CO3 := hidI CO3
      try simp only [hb0]
      clear CO hfd hgd hbD HR hb0 hf hg hh HT HA HB HC hj hj2
      refine wp_region_held_drew (S := fun W => B3 b0 (.slice ad1 j ca1) (.slice ad2 j ca2) (.slice ad3 j ca3) W) (by kernel_rfl) HG0.out.X (fun HS => ?_)
      generalize wr.drew = qz at *
      refine any_cutH (α := Nat × Nat × Nat × Nat) 3 #[true, true, true, true, true, true, true, true, true, true, true, true, true, true, true, true, false, false, false] (fun x => fr11 (.slice ad1 j ca1) (.slice ad2 j ca2) (.slice ad3 j ca3) (.slice (some ⟨gd, 0, none⟩) j j) b0 j u4 u37 u38 u39 u40 u41 u42 u43 u44 u45 u46 u47 u48 u49 u50 u51 u52 u53 u54 u55 u56 u57 u58 (.slice (some ⟨x.1, 0, none⟩) 1 1) (.int .u32 ((s0 : Nat) : Int)) (.slice (some ⟨x.2.1, 0, none⟩) 1 1) (.int .u32 ((s1 : Nat) : Int)) (.slice (some ⟨x.2.2.1, 0, none⟩) 1 1) (.int .u32 ((s2 : Nat) : Int)) (.int .u32 ((s12 : Nat) : Int)) (.slice (some ⟨x.2.2.2, 0, none⟩) 1 1) (.int .u32 ((s3 : Nat) : Int))) (fun x W => G11 w b0 (.slice ad1 j ca1) (.slice ad2 j ca2) (.slice ad3 j ca3) (.slice (some ⟨gd, 0, none⟩) j j) j fd W) (fun x q0 hx => ?_) (fun S0123_4 => ?_)
      · have hG := hx
        obtain ⟨x0, x1, x2, x3⟩ := x
        have HG : Hid (G11 w b0 (.slice ad1 j ca1) (.slice ad2 j ca2) (.slice ad3 j ca3) (.slice (some ⟨gd, 0, none⟩) j j) j fd q0) := hG
        clear hx hG 
        dsimp only [fr11]
        refine wpAnyH_ready (rs := [16]) (by kernel_rfl) (by simp) ?_
        refine AllReadyH.cons rfl (fun K hK => ?_) AllReadyH.nil
        go_simp
        refine hK.out _ _ HG.out.X (fun HS => ?_)
        clear hK K
        try simp only [Act.put, List.getElem_toArray, List.getElem_cons_succ, List.getElem_cons_zero, List.setIfInBounds_toArray, List.set_cons_zero, List.set_cons_succ]
        refine wpAnyH_ready (rs := [17]) (by kernel_rfl) (by simp) ?_
        refine AllReadyH.cons rfl (fun K hK => ?_) AllReadyH.nil
        go_simp
        refine hK.out _ _ HG.out.X (fun HS => ?_)
        clear hK K
        try simp only [Act.put, List.getElem_toArray, List.getElem_cons_succ, List.getElem_cons_zero, List.setIfInBounds_toArray, List.set_cons_zero, List.set_cons_succ]
        refine wpAnyH_ready (rs := [18]) (by kernel_rfl) (by simp) ?_
        refine AllReadyH.cons rfl (fun K hK => ?_) AllReadyH.nil
        go_simp
        refine hK.out _ _ HG.out.X (fun HS => ?_)
        clear hK K
        try simp only [Act.put, List.getElem_toArray, List.getElem_cons_succ, List.getElem_cons_zero, List.setIfInBounds_toArray, List.set_cons_zero, List.set_cons_succ]
        refine wpAnyH_done (by kernel_rfl) ?_ _
        clear HS
        go_wp2
        go_ret
        exact ⟨by first | rfl | simp, HG.out.U⟩
      refine any_cutH (α := Nat × Nat × Nat × Nat) 4 #[true, true, true, true, true, true, true, true, true, true, true, true, true, true, true, false, false, false, false] (fun x => fr11 (.slice ad1 j ca1) (.slice ad2 j ca2) (.slice ad3 j ca3) (.slice (some ⟨gd, 0, none⟩) j j) b0 j u4 u37 u38 u39 u40 u41 u42 u43 u44 u45 u46 u47 u48 u49 u50 u51 u52 u53 u54 u55 u56 u57 u58 (.slice (some ⟨x.1, 0, none⟩) 1 1) (.int .u32 ((s0 : Nat) : Int)) (.slice (some ⟨x.2.1, 0, none⟩) 1 1) (.int .u32 ((s1 : Nat) : Int)) (.slice (some ⟨x.2.2.1, 0, none⟩) 1 1) (.int .u32 ((s2 : Nat) : Int)) (.int .u32 ((s12 : Nat) : Int)) (.slice (some ⟨x.2.2.2, 0, none⟩) 1 1) undef) (fun x W => G11 w b0 (.slice ad1 j ca1) (.slice ad2 j ca2) (.slice ad3 j ca3) (.slice (some ⟨gd, 0, none⟩) j j) j fd W ∧ Bt W x.2.2.2 j h) (fun x q0 hx => ?_) (fun S0123_3 => ?_)
      · obtain ⟨hG, k3⟩ := hx
        obtain ⟨x0, x1, x2, x3⟩ := x
        have HG : Hid (G11 w b0 (.slice ad1 j ca1) (.slice ad2 j ca2) (.slice ad3 j ca3) (.slice (some ⟨gd, 0, none⟩) j j) j fd q0) := hG
        have H3 : Hid (Bt q0 x3 j h) := k3
        clear hG k3
        dsimp only [fr11]
        refine wpAnyH_ready (rs := [15]) (by kernel_rfl) (by simp) ?_
        refine AllReadyH.cons rfl (fun K hK => ?_) AllReadyH.nil
        · go_simp
          refine (CO3.out _ _ HG.out H3.out).mono ?_
          rintro e q1 ⟨rfl, hb⟩
          refine hK.out _ _ (HG.out.later hb).X (fun HS => ?_)
          try simp only [Act.put, List.getElem_toArray, List.getElem_cons_succ, List.getElem_cons_zero, List.setIfInBounds_toArray, List.set_cons_zero, List.set_cons_succ]
          exact anyH_eq (by kernel_rfl) (S0123_4.out (x0, x1, x2, x3) _ (HG.out.later hb))
      refine any_cutH (α := Nat × Nat × Nat × Nat) 6 #[true, true, true, true, true, true, true, true, true, true, false, false, true, true, true, false, false, false, false] (fun x => fr11 (.slice ad1 j ca1) (.slice ad2 j ca2) (.slice ad3 j ca3) (.slice (some ⟨gd, 0, none⟩) j j) b0 j u4 u37 u38 u39 u40 u41 u42 u43 u44 u45 u46 u47 u48 u49 u50 u51 u52 u53 u54 u55 u56 u57 u58 (.slice (some ⟨x.1, 0, none⟩) 1 1) (.int .u32 ((s0 : Nat) : Int)) (.slice (some ⟨x.2.1, 0, none⟩) 1 1) (.int .u32 ((s1 : Nat) : Int)) (.slice (some ⟨x.2.2.1, 0, none⟩) 1 1) undef undef (.slice (some ⟨x.2.2.2, 0, none⟩) 1 1) undef) (fun x W => G11 w b0 (.slice ad1 j ca1) (.slice ad2 j ca2) (.slice ad3 j ca3) (.slice (some ⟨gd, 0, none⟩) j j) j fd W ∧ Bt W x.2.2.1 j g ∧ Bt W x.2.2.2 j h) (fun x q0 hx => ?_) (fun S0123_2 => ?_)
      · obtain ⟨hG, k2, k3⟩ := hx
        obtain ⟨x0, x1, x2, x3⟩ := x
        have HG : Hid (G11 w b0 (.slice ad1 j ca1) (.slice ad2 j ca2) (.slice ad3 j ca3) (.slice (some ⟨gd, 0, none⟩) j j) j fd q0) := hG
        have H2 : Hid (Bt q0 x2 j g) := k2
        have H3 : Hid (Bt q0 x3 j h) := k3
        clear hG k2 k3
        dsimp only [fr11]
        refine wpAnyH_ready (rs := [10]) (by kernel_rfl) (by simp) ?_
        refine AllReadyH.cons rfl (fun K hK => ?_) AllReadyH.nil
        · go_simp
          refine (CO2.out _ _ HG.out H2.out).mono ?_
          rintro e q1 ⟨rfl, hb⟩
          refine hK.out _ _ (HG.out.later hb).X (fun HS => ?_)
          try simp only [Act.put, List.getElem_toArray, List.getElem_cons_succ, List.getElem_cons_zero, List.setIfInBounds_toArray, List.set_cons_zero, List.set_cons_succ]
          refine wpAnyH_take (i := 11) (v := ?_) rfl (by kernel_rfl) (by kernel_rfl) (by kernel_rfl) (fun _ _ _ h => h) (Or.inl ⟨by kernel_rfl, ?_⟩) HS ?_
          rotate_left
          · (rintro w -; go_simp) <;> with_reducible rfl
          try simp only [Act.put, List.getElem_toArray, List.getElem_cons_succ, List.getElem_cons_zero, List.setIfInBounds_toArray, List.set_cons_zero, List.set_cons_succ]
          exact anyH_eq (by kernel_rfl) (S0123_3.out (x0, x1, x2, x3) _ ⟨HG.out.later hb, H3.out.later hb⟩)
      refine any_cutH (α := Nat × Nat × Nat × Nat) 5 #[true, true, true, true, true, true, true, true, true, true, true, true, true, true, false, false, false, false, false] (fun x => fr11 (.slice ad1 j ca1) (.slice ad2 j ca2) (.slice ad3 j ca3) (.slice (some ⟨gd, 0, none⟩) j j) b0 j u4 u37 u38 u39 u40 u41 u42 u43 u44 u45 u46 u47 u48 u49 u50 u51 u52 u53 u54 u55 u56 u57 u58 (.slice (some ⟨x.1, 0, none⟩) 1 1) (.int .u32 ((s0 : Nat) : Int)) (.slice (some ⟨x.2.1, 0, none⟩) 1 1) (.int .u32 ((s1 : Nat) : Int)) (.slice (some ⟨x.2.2.1, 0, none⟩) 1 1) (.int .u32 ((s2 : Nat) : Int)) (.int .u32 ((s12 : Nat) : Int)) undef undef) (fun x W => G11 w b0 (.slice ad1 j ca1) (.slice ad2 j ca2) (.slice ad3 j ca3) (.slice (some ⟨gd, 0, none⟩) j j) j fd W) (fun x q0 hx => ?_) (fun S012_3 => ?_)
      · have hG := hx
        obtain ⟨x0, x1, x2, x3⟩ := x
        have HG : Hid (G11 w b0 (.slice ad1 j ca1) (.slice ad2 j ca2) (.slice ad3 j ca3) (.slice (some ⟨gd, 0, none⟩) j j) j fd q0) := hG
        clear hx hG 
        dsimp only [fr11]
        refine wpAnyH_ready (rs := [14]) (by kernel_rfl) (by simp) ?_
        refine AllReadyH.cons rfl (fun K hK => ?_) AllReadyH.nil
        · go_simp
          refine hK.out _ _ (HG.out.later (bel1 _ _)).X (fun HS => ?_)
          try simp only [Act.put, List.getElem_toArray, List.getElem_cons_succ, List.getElem_cons_zero, List.setIfInBounds_toArray, List.set_cons_zero, List.set_cons_succ]
          exact anyH_eq (by kernel_rfl) (S0123_3.out (x0, x1, x2, q0.heap.size) _ ⟨HG.out.later (bel1 _ _), LB3.out _ HG.out⟩)
      refine any_cutH (α := Nat × Nat × Nat × Nat) 7 #[true, true, true, true, true, true, false, true, true, true, false, false, true, true, true, false, false, false, false] (fun x => fr11 (.slice ad1 j ca1) (.slice ad2 j ca2) (.slice ad3 j ca3) (.slice (some ⟨gd, 0, none⟩) j j) b0 j u4 u37 u38 u39 u40 u41 u42 u43 u44 u45 u46 u47 u48 u49 u50 u51 u52 u53 u54 u55 u56 u57 u58 (.slice (some ⟨x.1, 0, none⟩) 1 1) (.int .u32 ((s0 : Nat) : Int)) (.slice (some ⟨x.2.1, 0, none⟩) 1 1) undef (.slice (some ⟨x.2.2.1, 0, none⟩) 1 1) undef undef (.slice (some ⟨x.2.2.2, 0, none⟩) 1 1) undef) (fun x W => G11 w b0 (.slice ad1 j ca1) (.slice ad2 j ca2) (.slice ad3 j ca3) (.slice (some ⟨gd, 0, none⟩) j j) j fd W ∧ Bt W x.2.1 j f ∧ Bt W x.2.2.1 j g ∧ Bt W x.2.2.2 j h) (fun x q0 hx => ?_) (fun S0123_1 => ?_)
      · obtain ⟨hG, k1, k2, k3⟩ := hx
        obtain ⟨x0, x1, x2, x3⟩ := x
        have HG : Hid (G11 w b0 (.slice ad1 j ca1) (.slice ad2 j ca2) (.slice ad3 j ca3) (.slice (some ⟨gd, 0, none⟩) j j) j fd q0) := hG
        have H1 : Hid (Bt q0 x1 j f) := k1
        have H2 : Hid (Bt q0 x2 j g) := k2
        have H3 : Hid (Bt q0 x3 j h) := k3
        clear hG k1 k2 k3
        dsimp only [fr11]
        refine wpAnyH_ready (rs := [6]) (by kernel_rfl) (by simp) ?_
        refine AllReadyH.cons rfl (fun K hK => ?_) AllReadyH.nil
        · go_simp
          refine (CO1.out _ _ HG.out H1.out).mono ?_
          rintro e q1 ⟨rfl, hb⟩
          refine hK.out _ _ (HG.out.later hb).X (fun HS => ?_)
          try simp only [Act.put, List.getElem_toArray, List.getElem_cons_succ, List.getElem_cons_zero, List.setIfInBounds_toArray, List.set_cons_zero, List.set_cons_succ]
          exact anyH_eq (by kernel_rfl) (S0123_2.out (x0, x1, x2, x3) _ ⟨HG.out.later hb, H2.out.later hb, H3.out.later hb⟩)
      refine any_cutH (α := Nat × Nat × Nat × Nat) 7 #[true, true, true, true, true, true, true, true, true, true, false, false, true, true, false, false, false, false, false] (fun x => fr11 (.slice ad1 j ca1) (.slice ad2 j ca2) (.slice ad3 j ca3) (.slice (some ⟨gd, 0, none⟩) j j) b0 j u4 u37 u38 u39 u40 u41 u42 u43 u44 u45 u46 u47 u48 u49 u50 u51 u52 u53 u54 u55 u56 u57 u58 (.slice (some ⟨x.1, 0, none⟩) 1 1) (.int .u32 ((s0 : Nat) : Int)) (.slice (some ⟨x.2.1, 0, none⟩) 1 1) (.int .u32 ((s1 : Nat) : Int)) (.slice (some ⟨x.2.2.1, 0, none⟩) 1 1) undef undef undef undef) (fun x W => G11 w b0 (.slice ad1 j ca1) (.slice ad2 j ca2) (.slice ad3 j ca3) (.slice (some ⟨gd, 0, none⟩) j j) j fd W ∧ Bt W x.2.2.1 j g) (fun x q0 hx => ?_) (fun S012_2 => ?_)
      · obtain ⟨hG, k2⟩ := hx
        obtain ⟨x0, x1, x2, x3⟩ := x
        have HG : Hid (G11 w b0 (.slice ad1 j ca1) (.slice ad2 j ca2) (.slice ad3 j ca3) (.slice (some ⟨gd, 0, none⟩) j j) j fd q0) := hG
        have H2 : Hid (Bt q0 x2 j g) := k2
        clear hG k2
        dsimp only [fr11]
        refine wpAnyH_ready (rs := [10, 14]) (by kernel_rfl) (by simp) ?_
        refine AllReadyH.cons rfl (fun K hK => ?_) (AllReadyH.cons rfl (fun K hK => ?_) AllReadyH.nil)
        · go_simp
          refine (CO2.out _ _ HG.out H2.out).mono ?_
          rintro e q1 ⟨rfl, hb⟩
          refine hK.out _ _ (HG.out.later hb).X (fun HS => ?_)
          try simp only [Act.put, List.getElem_toArray, List.getElem_cons_succ, List.getElem_cons_zero, List.setIfInBounds_toArray, List.set_cons_zero, List.set_cons_succ]
          refine wpAnyH_take (i := 11) (v := ?_) rfl (by kernel_rfl) (by kernel_rfl) (by kernel_rfl) (fun _ _ _ h => h) (Or.inl ⟨by kernel_rfl, ?_⟩) HS ?_
          rotate_left
          · (rintro w -; go_simp) <;> with_reducible rfl
          try simp only [Act.put, List.getElem_toArray, List.getElem_cons_succ, List.getElem_cons_zero, List.setIfInBounds_toArray, List.set_cons_zero, List.set_cons_succ]
          exact anyH_eq (by kernel_rfl) (S012_3.out (x0, x1, x2, x3) _ (HG.out.later hb))
        · go_simp
          refine hK.out _ _ (HG.out.later (bel1 _ _)).X (fun HS => ?_)
          try simp only [Act.put, List.getElem_toArray, List.getElem_cons_succ, List.getElem_cons_zero, List.setIfInBounds_toArray, List.set_cons_zero, List.set_cons_succ]
          exact anyH_eq (by kernel_rfl) (S0123_2.out (x0, x1, x2, q0.heap.size) _ ⟨HG.out.later (bel1 _ _), H2.out.later (bel1 _ _), LB3.out _ HG.out⟩)
      refine any_cutH (α := Nat × Nat × Nat × Nat) 7 #[true, true, true, true, true, true, true, true, true, false, false, false, true, true, true, false, false, false, false] (fun x => fr11 (.slice ad1 j ca1) (.slice ad2 j ca2) (.slice ad3 j ca3) (.slice (some ⟨gd, 0, none⟩) j j) b0 j u4 u37 u38 u39 u40 u41 u42 u43 u44 u45 u46 u47 u48 u49 u50 u51 u52 u53 u54 u55 u56 u57 u58 (.slice (some ⟨x.1, 0, none⟩) 1 1) (.int .u32 ((s0 : Nat) : Int)) (.slice (some ⟨x.2.1, 0, none⟩) 1 1) (.int .u32 ((s1 : Nat) : Int)) undef undef undef (.slice (some ⟨x.2.2.2, 0, none⟩) 1 1) undef) (fun x W => G11 w b0 (.slice ad1 j ca1) (.slice ad2 j ca2) (.slice ad3 j ca3) (.slice (some ⟨gd, 0, none⟩) j j) j fd W ∧ Bt W x.2.2.2 j h) (fun x q0 hx => ?_) (fun S013_2 => ?_)
      · obtain ⟨hG, k3⟩ := hx
        obtain ⟨x0, x1, x2, x3⟩ := x
        have HG : Hid (G11 w b0 (.slice ad1 j ca1) (.slice ad2 j ca2) (.slice ad3 j ca3) (.slice (some ⟨gd, 0, none⟩) j j) j fd q0) := hG
        have H3 : Hid (Bt q0 x3 j h) := k3
        clear hG k3
        dsimp only [fr11]
        refine wpAnyH_ready (rs := [9]) (by kernel_rfl) (by simp) ?_
        refine AllReadyH.cons rfl (fun K hK => ?_) AllReadyH.nil
        · go_simp
          refine hK.out _ _ (HG.out.later (bel1 _ _)).X (fun HS => ?_)
          try simp only [Act.put, List.getElem_toArray, List.getElem_cons_succ, List.getElem_cons_zero, List.setIfInBounds_toArray, List.set_cons_zero, List.set_cons_succ]
          exact anyH_eq (by kernel_rfl) (S0123_2.out (x0, x1, q0.heap.size, x3) _ ⟨HG.out.later (bel1 _ _), LB2.out _ HG.out, H3.out.later (bel1 _ _)⟩)
      refine any_cutH (α := Nat × Nat × Nat × Nat) 8 #[true, true, false, true, true, true, false, true, true, true, false, false, true, true, true, false, false, false, false] (fun x => fr11 (.slice ad1 j ca1) (.slice ad2 j ca2) (.slice ad3 j ca3) (.slice (some ⟨gd, 0, none⟩) j j) b0 j u4 u37 u38 u39 u40 u41 u42 u43 u44 u45 u46 u47 u48 u49 u50 u51 u52 u53 u54 u55 u56 u57 u58 (.slice (some ⟨x.1, 0, none⟩) 1 1) undef (.slice (some ⟨x.2.1, 0, none⟩) 1 1) undef (.slice (some ⟨x.2.2.1, 0, none⟩) 1 1) undef undef (.slice (some ⟨x.2.2.2, 0, none⟩) 1 1) undef) (fun x W => G11 w b0 (.slice ad1 j ca1) (.slice ad2 j ca2) (.slice ad3 j ca3) (.slice (some ⟨gd, 0, none⟩) j j) j fd W ∧ Bt W x.1 j fd ∧ Bt W x.2.1 j f ∧ Bt W x.2.2.1 j g ∧ Bt W x.2.2.2 j h) (fun x q0 hx => ?_) (fun S0123_0 => ?_)
      · obtain ⟨hG, k0, k1, k2, k3⟩ := hx
        obtain ⟨x0, x1, x2, x3⟩ := x
        have HG : Hid (G11 w b0 (.slice ad1 j ca1) (.slice ad2 j ca2) (.slice ad3 j ca3) (.slice (some ⟨gd, 0, none⟩) j j) j fd q0) := hG
        have H0 : Hid (Bt q0 x0 j fd) := k0
        have H1 : Hid (Bt q0 x1 j f) := k1
        have H2 : Hid (Bt q0 x2 j g) := k2
        have H3 : Hid (Bt q0 x3 j h) := k3
        clear hG k0 k1 k2 k3
        dsimp only [fr11]
        refine wpAnyH_ready (rs := [2]) (by kernel_rfl) (by simp) ?_
        refine AllReadyH.cons rfl (fun K hK => ?_) AllReadyH.nil
        · go_simp
          refine (CO0.out _ _ HG.out H0.out).mono ?_
          rintro e q1 ⟨rfl, hb⟩
          refine hK.out _ _ (HG.out.later hb).X (fun HS => ?_)
          try simp only [Act.put, List.getElem_toArray, List.getElem_cons_succ, List.getElem_cons_zero, List.setIfInBounds_toArray, List.set_cons_zero, List.set_cons_succ]
          exact anyH_eq (by kernel_rfl) (S0123_1.out (x0, x1, x2, x3) _ ⟨HG.out.later hb, H1.out.later hb, H2.out.later hb, H3.out.later hb⟩)
      refine any_cutH (α := Nat × Nat × Nat × Nat) 8 #[true, true, true, true, true, true, false, true, true, true, false, false, true, true, false, false, false, false, false] (fun x => fr11 (.slice ad1 j ca1) (.slice ad2 j ca2) (.slice ad3 j ca3) (.slice (some ⟨gd, 0, none⟩) j j) b0 j u4 u37 u38 u39 u40 u41 u42 u43 u44 u45 u46 u47 u48 u49 u50 u51 u52 u53 u54 u55 u56 u57 u58 (.slice (some ⟨x.1, 0, none⟩) 1 1) (.int .u32 ((s0 : Nat) : Int)) (.slice (some ⟨x.2.1, 0, none⟩) 1 1) undef (.slice (some ⟨x.2.2.1, 0, none⟩) 1 1) undef undef undef undef) (fun x W => G11 w b0 (.slice ad1 j ca1) (.slice ad2 j ca2) (.slice ad3 j ca3) (.slice (some ⟨gd, 0, none⟩) j j) j fd W ∧ Bt W x.2.1 j f ∧ Bt W x.2.2.1 j g) (fun x q0 hx => ?_) (fun S012_1 => ?_)
      · obtain ⟨hG, k1, k2⟩ := hx
        obtain ⟨x0, x1, x2, x3⟩ := x
        have HG : Hid (G11 w b0 (.slice ad1 j ca1) (.slice ad2 j ca2) (.slice ad3 j ca3) (.slice (some ⟨gd, 0, none⟩) j j) j fd q0) := hG
        have H1 : Hid (Bt q0 x1 j f) := k1
        have H2 : Hid (Bt q0 x2 j g) := k2
        clear hG k1 k2
        dsimp only [fr11]
        refine wpAnyH_ready (rs := [6, 14]) (by kernel_rfl) (by simp) ?_
        refine AllReadyH.cons rfl (fun K hK => ?_) (AllReadyH.cons rfl (fun K hK => ?_) AllReadyH.nil)
        · go_simp
          refine (CO1.out _ _ HG.out H1.out).mono ?_
          rintro e q1 ⟨rfl, hb⟩
          refine hK.out _ _ (HG.out.later hb).X (fun HS => ?_)
          try simp only [Act.put, List.getElem_toArray, List.getElem_cons_succ, List.getElem_cons_zero, List.setIfInBounds_toArray, List.set_cons_zero, List.set_cons_succ]
          exact anyH_eq (by kernel_rfl) (S012_2.out (x0, x1, x2, x3) _ ⟨HG.out.later hb, H2.out.later hb⟩)
        · go_simp
          refine hK.out _ _ (HG.out.later (bel1 _ _)).X (fun HS => ?_)
          try simp only [Act.put, List.getElem_toArray, List.getElem_cons_succ, List.getElem_cons_zero, List.setIfInBounds_toArray, List.set_cons_zero, List.set_cons_succ]
          exact anyH_eq (by kernel_rfl) (S0123_1.out (x0, x1, x2, q0.heap.size) _ ⟨HG.out.later (bel1 _ _), H1.out.later (bel1 _ _), H2.out.later (bel1 _ _), LB3.out _ HG.out⟩)
      refine any_cutH (α := Nat × Nat × Nat × Nat) 8 #[true, true, true, true, true, true, false, true, true, false, false, false, true, true, true, false, false, false, false] (fun x => fr11 (.slice ad1 j ca1) (.slice ad2 j ca2) (.slice ad3 j ca3) (.slice (some ⟨gd, 0, none⟩) j j) b0 j u4 u37 u38 u39 u40 u41 u42 u43 u44 u45 u46 u47 u48 u49 u50 u51 u52 u53 u54 u55 u56 u57 u58 (.slice (some ⟨x.1, 0, none⟩) 1 1) (.int .u32 ((s0 : Nat) : Int)) (.slice (some ⟨x.2.1, 0, none⟩) 1 1) undef undef undef undef (.slice (some ⟨x.2.2.2, 0, none⟩) 1 1) undef) (fun x W => G11 w b0 (.slice ad1 j ca1) (.slice ad2 j ca2) (.slice ad3 j ca3) (.slice (some ⟨gd, 0, none⟩) j j) j fd W ∧ Bt W x.2.1 j f ∧ Bt W x.2.2.2 j h) (fun x q0 hx => ?_) (fun S013_1 => ?_)
      · obtain ⟨hG, k1, k3⟩ := hx
        obtain ⟨x0, x1, x2, x3⟩ := x
        have HG : Hid (G11 w b0 (.slice ad1 j ca1) (.slice ad2 j ca2) (.slice ad3 j ca3) (.slice (some ⟨gd, 0, none⟩) j j) j fd q0) := hG
        have H1 : Hid (Bt q0 x1 j f) := k1
        have H3 : Hid (Bt q0 x3 j h) := k3
        clear hG k1 k3
        dsimp only [fr11]
        refine wpAnyH_ready (rs := [6, 9]) (by kernel_rfl) (by simp) ?_
        refine AllReadyH.cons rfl (fun K hK => ?_) (AllReadyH.cons rfl (fun K hK => ?_) AllReadyH.nil)
        · go_simp
          refine (CO1.out _ _ HG.out H1.out).mono ?_
          rintro e q1 ⟨rfl, hb⟩
          refine hK.out _ _ (HG.out.later hb).X (fun HS => ?_)
          try simp only [Act.put, List.getElem_toArray, List.getElem_cons_succ, List.getElem_cons_zero, List.setIfInBounds_toArray, List.set_cons_zero, List.set_cons_succ]
          exact anyH_eq (by kernel_rfl) (S013_2.out (x0, x1, x2, x3) _ ⟨HG.out.later hb, H3.out.later hb⟩)
        · go_simp
          refine hK.out _ _ (HG.out.later (bel1 _ _)).X (fun HS => ?_)
          try simp only [Act.put, List.getElem_toArray, List.getElem_cons_succ, List.getElem_cons_zero, List.setIfInBounds_toArray, List.set_cons_zero, List.set_cons_succ]
          exact anyH_eq (by kernel_rfl) (S0123_1.out (x0, x1, q0.heap.size, x3) _ ⟨HG.out.later (bel1 _ _), H1.out.later (bel1 _ _), LB2.out _ HG.out, H3.out.later (bel1 _ _)⟩)
      refine any_cutH (α := Nat × Nat × Nat × Nat) 8 #[true, true, true, true, true, false, false, true, true, true, false, false, true, true, true, false, false, false, false] (fun x => fr11 (.slice ad1 j ca1) (.slice ad2 j ca2) (.slice ad3 j ca3) (.slice (some ⟨gd, 0, none⟩) j j) b0 j u4 u37 u38 u39 u40 u41 u42 u43 u44 u45 u46 u47 u48 u49 u50 u51 u52 u53 u54 u55 u56 u57 u58 (.slice (some ⟨x.1, 0, none⟩) 1 1) (.int .u32 ((s0 : Nat) : Int)) undef undef (.slice (some ⟨x.2.2.1, 0, none⟩) 1 1) undef undef (.slice (some ⟨x.2.2.2, 0, none⟩) 1 1) undef) (fun x W => G11 w b0 (.slice ad1 j ca1) (.slice ad2 j ca2) (.slice ad3 j ca3) (.slice (some ⟨gd, 0, none⟩) j j) j fd W ∧ Bt W x.2.2.1 j g ∧ Bt W x.2.2.2 j h) (fun x q0 hx => ?_) (fun S023_1 => ?_)
      · obtain ⟨hG, k2, k3⟩ := hx
        obtain ⟨x0, x1, x2, x3⟩ := x
        have HG : Hid (G11 w b0 (.slice ad1 j ca1) (.slice ad2 j ca2) (.slice ad3 j ca3) (.slice (some ⟨gd, 0, none⟩) j j) j fd q0) := hG
        have H2 : Hid (Bt q0 x2 j g) := k2
        have H3 : Hid (Bt q0 x3 j h) := k3
        clear hG k2 k3
        dsimp only [fr11]
        refine wpAnyH_ready (rs := [5]) (by kernel_rfl) (by simp) ?_
        refine AllReadyH.cons rfl (fun K hK => ?_) AllReadyH.nil
        · go_simp
          refine hK.out _ _ (HG.out.later (bel1 _ _)).X (fun HS => ?_)
          try simp only [Act.put, List.getElem_toArray, List.getElem_cons_succ, List.getElem_cons_zero, List.setIfInBounds_toArray, List.set_cons_zero, List.set_cons_succ]
          exact anyH_eq (by kernel_rfl) (S0123_1.out (x0, q0.heap.size, x2, x3) _ ⟨HG.out.later (bel1 _ _), LB1.out _ HG.out, H2.out.later (bel1 _ _), H3.out.later (bel1 _ _)⟩)
      refine any_cutH (α := Nat × Nat × Nat × Nat) 8 #[true, true, true, true, true, true, true, true, true, false, false, false, true, true, false, false, false, false, false] (fun x => fr11 (.slice ad1 j ca1) (.slice ad2 j ca2) (.slice ad3 j ca3) (.slice (some ⟨gd, 0, none⟩) j j) b0 j u4 u37 u38 u39 u40 u41 u42 u43 u44 u45 u46 u47 u48 u49 u50 u51 u52 u53 u54 u55 u56 u57 u58 (.slice (some ⟨x.1, 0, none⟩) 1 1) (.int .u32 ((s0 : Nat) : Int)) (.slice (some ⟨x.2.1, 0, none⟩) 1 1) (.int .u32 ((s1 : Nat) : Int)) undef undef undef undef undef) (fun x W => G11 w b0 (.slice ad1 j ca1) (.slice ad2 j ca2) (.slice ad3 j ca3) (.slice (some ⟨gd, 0, none⟩) j j) j fd W) (fun x q0 hx => ?_) (fun S01_2 => ?_)
      · have hG := hx
        obtain ⟨x0, x1, x2, x3⟩ := x
        have HG : Hid (G11 w b0 (.slice ad1 j ca1) (.slice ad2 j ca2) (.slice ad3 j ca3) (.slice (some ⟨gd, 0, none⟩) j j) j fd q0) := hG
        clear hx hG 
        dsimp only [fr11]
        refine wpAnyH_ready (rs := [9, 14]) (by kernel_rfl) (by simp) ?_
        refine AllReadyH.cons rfl (fun K hK => ?_) (AllReadyH.cons rfl (fun K hK => ?_) AllReadyH.nil)
        · go_simp
          refine hK.out _ _ (HG.out.later (bel1 _ _)).X (fun HS => ?_)
          try simp only [Act.put, List.getElem_toArray, List.getElem_cons_succ, List.getElem_cons_zero, List.setIfInBounds_toArray, List.set_cons_zero, List.set_cons_succ]
          exact anyH_eq (by kernel_rfl) (S012_2.out (x0, x1, q0.heap.size, x3) _ ⟨HG.out.later (bel1 _ _), LB2.out _ HG.out⟩)
        · go_simp
          refine hK.out _ _ (HG.out.later (bel1 _ _)).X (fun HS => ?_)
          try simp only [Act.put, List.getElem_toArray, List.getElem_cons_succ, List.getElem_cons_zero, List.setIfInBounds_toArray, List.set_cons_zero, List.set_cons_succ]
          exact anyH_eq (by kernel_rfl) (S013_2.out (x0, x1, x2, q0.heap.size) _ ⟨HG.out.later (bel1 _ _), LB3.out _ HG.out⟩)
      refine any_cutH (α := Nat × Nat × Nat × Nat) 9 #[true, true, false, true, true, true, false, true, true, true, false, false, true, true, false, false, false, false, false] (fun x => fr11 (.slice ad1 j ca1) (.slice ad2 j ca2) (.slice ad3 j ca3) (.slice (some ⟨gd, 0, none⟩) j j) b0 j u4 u37 u38 u39 u40 u41 u42 u43 u44 u45 u46 u47 u48 u49 u50 u51 u52 u53 u54 u55 u56 u57 u58 (.slice (some ⟨x.1, 0, none⟩) 1 1) undef (.slice (some ⟨x.2.1, 0, none⟩) 1 1) undef (.slice (some ⟨x.2.2.1, 0, none⟩) 1 1) undef undef undef undef) (fun x W => G11 w b0 (.slice ad1 j ca1) (.slice ad2 j ca2) (.slice ad3 j ca3) (.slice (some ⟨gd, 0, none⟩) j j) j fd W ∧ Bt W x.1 j fd ∧ Bt W x.2.1 j f ∧ Bt W x.2.2.1 j g) (fun x q0 hx => ?_) (fun S012_0 => ?_)
      · obtain ⟨hG, k0, k1, k2⟩ := hx
        obtain ⟨x0, x1, x2, x3⟩ := x
        have HG : Hid (G11 w b0 (.slice ad1 j ca1) (.slice ad2 j ca2) (.slice ad3 j ca3) (.slice (some ⟨gd, 0, none⟩) j j) j fd q0) := hG
        have H0 : Hid (Bt q0 x0 j fd) := k0
        have H1 : Hid (Bt q0 x1 j f) := k1
        have H2 : Hid (Bt q0 x2 j g) := k2
        clear hG k0 k1 k2
        dsimp only [fr11]
        refine wpAnyH_ready (rs := [2, 14]) (by kernel_rfl) (by simp) ?_
        refine AllReadyH.cons rfl (fun K hK => ?_) (AllReadyH.cons rfl (fun K hK => ?_) AllReadyH.nil)
        · go_simp
          refine (CO0.out _ _ HG.out H0.out).mono ?_
          rintro e q1 ⟨rfl, hb⟩
          refine hK.out _ _ (HG.out.later hb).X (fun HS => ?_)
          try simp only [Act.put, List.getElem_toArray, List.getElem_cons_succ, List.getElem_cons_zero, List.setIfInBounds_toArray, List.set_cons_zero, List.set_cons_succ]
          exact anyH_eq (by kernel_rfl) (S012_1.out (x0, x1, x2, x3) _ ⟨HG.out.later hb, H1.out.later hb, H2.out.later hb⟩)
        · go_simp
          refine hK.out _ _ (HG.out.later (bel1 _ _)).X (fun HS => ?_)
          try simp only [Act.put, List.getElem_toArray, List.getElem_cons_succ, List.getElem_cons_zero, List.setIfInBounds_toArray, List.set_cons_zero, List.set_cons_succ]
          exact anyH_eq (by kernel_rfl) (S0123_0.out (x0, x1, x2, q0.heap.size) _ ⟨HG.out.later (bel1 _ _), H0.out.later (bel1 _ _), H1.out.later (bel1 _ _), H2.out.later (bel1 _ _), LB3.out _ HG.out⟩)
      refine any_cutH (α := Nat × Nat × Nat × Nat) 9 #[true, true, false, true, true, true, false, true, true, false, false, false, true, true, true, false, false, false, false] (fun x => fr11 (.slice ad1 j ca1) (.slice ad2 j ca2) (.slice ad3 j ca3) (.slice (some ⟨gd, 0, none⟩) j j) b0 j u4 u37 u38 u39 u40 u41 u42 u43 u44 u45 u46 u47 u48 u49 u50 u51 u52 u53 u54 u55 u56 u57 u58 (.slice (some ⟨x.1, 0, none⟩) 1 1) undef (.slice (some ⟨x.2.1, 0, none⟩) 1 1) undef undef undef undef (.slice (some ⟨x.2.2.2, 0, none⟩) 1 1) undef) (fun x W => G11 w b0 (.slice ad1 j ca1) (.slice ad2 j ca2) (.slice ad3 j ca3) (.slice (some ⟨gd, 0, none⟩) j j) j fd W ∧ Bt W x.1 j fd ∧ Bt W x.2.1 j f ∧ Bt W x.2.2.2 j h) (fun x q0 hx => ?_) (fun S013_0 => ?_)
      · obtain ⟨hG, k0, k1, k3⟩ := hx
        obtain ⟨x0, x1, x2, x3⟩ := x
        have HG : Hid (G11 w b0 (.slice ad1 j ca1) (.slice ad2 j ca2) (.slice ad3 j ca3) (.slice (some ⟨gd, 0, none⟩) j j) j fd q0) := hG
        have H0 : Hid (Bt q0 x0 j fd) := k0
        have H1 : Hid (Bt q0 x1 j f) := k1
        have H3 : Hid (Bt q0 x3 j h) := k3
        clear hG k0 k1 k3
        dsimp only [fr11]
        refine wpAnyH_ready (rs := [2, 9]) (by kernel_rfl) (by simp) ?_
        refine AllReadyH.cons rfl (fun K hK => ?_) (AllReadyH.cons rfl (fun K hK => ?_) AllReadyH.nil)
        · go_simp
          refine (CO0.out _ _ HG.out H0.out).mono ?_
          rintro e q1 ⟨rfl, hb⟩
          refine hK.out _ _ (HG.out.later hb).X (fun HS => ?_)
          try simp only [Act.put, List.getElem_toArray, List.getElem_cons_succ, List.getElem_cons_zero, List.setIfInBounds_toArray, List.set_cons_zero, List.set_cons_succ]
          exact anyH_eq (by kernel_rfl) (S013_1.out (x0, x1, x2, x3) _ ⟨HG.out.later hb, H1.out.later hb, H3.out.later hb⟩)
        · go_simp
          refine hK.out _ _ (HG.out.later (bel1 _ _)).X (fun HS => ?_)
          try simp only [Act.put, List.getElem_toArray, List.getElem_cons_succ, List.getElem_cons_zero, List.setIfInBounds_toArray, List.set_cons_zero, List.set_cons_succ]
          exact anyH_eq (by kernel_rfl) (S0123_0.out (x0, x1, q0.heap.size, x3) _ ⟨HG.out.later (bel1 _ _), H0.out.later (bel1 _ _), H1.out.later (bel1 _ _), LB2.out _ HG.out, H3.out.later (bel1 _ _)⟩)
      refine any_cutH (α := Nat × Nat × Nat × Nat) 9 #[true, true, false, true, true, false, false, true, true, true, false, false, true, true, true, false, false, false, false] (fun x => fr11 (.slice ad1 j ca1) (.slice ad2 j ca2) (.slice ad3 j ca3) (.slice (some ⟨gd, 0, none⟩) j j) b0 j u4 u37 u38 u39 u40 u41 u42 u43 u44 u45 u46 u47 u48 u49 u50 u51 u52 u53 u54 u55 u56 u57 u58 (.slice (some ⟨x.1, 0, none⟩) 1 1) undef undef undef (.slice (some ⟨x.2.2.1, 0, none⟩) 1 1) undef undef (.slice (some ⟨x.2.2.2, 0, none⟩) 1 1) undef) (fun x W => G11 w b0 (.slice ad1 j ca1) (.slice ad2 j ca2) (.slice ad3 j ca3) (.slice (some ⟨gd, 0, none⟩) j j) j fd W ∧ Bt W x.1 j fd ∧ Bt W x.2.2.1 j g ∧ Bt W x.2.2.2 j h) (fun x q0 hx => ?_) (fun S023_0 => ?_)
      · obtain ⟨hG, k0, k2, k3⟩ := hx
        obtain ⟨x0, x1, x2, x3⟩ := x
        have HG : Hid (G11 w b0 (.slice ad1 j ca1) (.slice ad2 j ca2) (.slice ad3 j ca3) (.slice (some ⟨gd, 0, none⟩) j j) j fd q0) := hG
        have H0 : Hid (Bt q0 x0 j fd) := k0
        have H2 : Hid (Bt q0 x2 j g) := k2
        have H3 : Hid (Bt q0 x3 j h) := k3
        clear hG k0 k2 k3
        dsimp only [fr11]
        refine wpAnyH_ready (rs := [2, 5]) (by kernel_rfl) (by simp) ?_
        refine AllReadyH.cons rfl (fun K hK => ?_) (AllReadyH.cons rfl (fun K hK => ?_) AllReadyH.nil)
        · go_simp
          refine (CO0.out _ _ HG.out H0.out).mono ?_
          rintro e q1 ⟨rfl, hb⟩
          refine hK.out _ _ (HG.out.later hb).X (fun HS => ?_)
          try simp only [Act.put, List.getElem_toArray, List.getElem_cons_succ, List.getElem_cons_zero, List.setIfInBounds_toArray, List.set_cons_zero, List.set_cons_succ]
          exact anyH_eq (by kernel_rfl) (S023_1.out (x0, x1, x2, x3) _ ⟨HG.out.later hb, H2.out.later hb, H3.out.later hb⟩)
        · go_simp
          refine hK.out _ _ (HG.out.later (bel1 _ _)).X (fun HS => ?_)
          try simp only [Act.put, List.getElem_toArray, List.getElem_cons_succ, List.getElem_cons_zero, List.setIfInBounds_toArray, List.set_cons_zero, List.set_cons_succ]
          exact anyH_eq (by kernel_rfl) (S0123_0.out (x0, q0.heap.size, x2, x3) _ ⟨HG.out.later (bel1 _ _), H0.out.later (bel1 _ _), LB1.out _ HG.out, H2.out.later (bel1 _ _), H3.out.later (bel1 _ _)⟩)
      refine any_cutH (α := Nat × Nat × Nat × Nat) 9 #[true, false, false, true, true, true, false, true, true, true, false, false, true, true, true, false, false, false, false] (fun x => fr11 (.slice ad1 j ca1) (.slice ad2 j ca2) (.slice ad3 j ca3) (.slice (some ⟨gd, 0, none⟩) j j) b0 j u4 u37 u38 u39 u40 u41 u42 u43 u44 u45 u46 u47 u48 u49 u50 u51 u52 u53 u54 u55 u56 u57 u58 undef undef (.slice (some ⟨x.2.1, 0, none⟩) 1 1) undef (.slice (some ⟨x.2.2.1, 0, none⟩) 1 1) undef undef (.slice (some ⟨x.2.2.2, 0, none⟩) 1 1) undef) (fun x W => G11 w b0 (.slice ad1 j ca1) (.slice ad2 j ca2) (.slice ad3 j ca3) (.slice (some ⟨gd, 0, none⟩) j j) j fd W ∧ Bt W x.2.1 j f ∧ Bt W x.2.2.1 j g ∧ Bt W x.2.2.2 j h) (fun x q0 hx => ?_) (fun S123_0 => ?_)
      · obtain ⟨hG, k1, k2, k3⟩ := hx
        obtain ⟨x0, x1, x2, x3⟩ := x
        have HG : Hid (G11 w b0 (.slice ad1 j ca1) (.slice ad2 j ca2) (.slice ad3 j ca3) (.slice (some ⟨gd, 0, none⟩) j j) j fd q0) := hG
        have H1 : Hid (Bt q0 x1 j f) := k1
        have H2 : Hid (Bt q0 x2 j g) := k2
        have H3 : Hid (Bt q0 x3 j h) := k3
        clear hG k1 k2 k3
        dsimp only [fr11]
        refine wpAnyH_ready (rs := [1]) (by kernel_rfl) (by simp) ?_
        refine AllReadyH.cons rfl (fun K hK => ?_) AllReadyH.nil
        · go_simp
          refine hK.out _ _ (HG.out.later (bel1 _ _)).X (fun HS => ?_)
          try simp only [Act.put, List.getElem_toArray, List.getElem_cons_succ, List.getElem_cons_zero, List.setIfInBounds_toArray, List.set_cons_zero, List.set_cons_succ]
          exact anyH_eq (by kernel_rfl) (S0123_0.out (q0.heap.size, x1, x2, x3) _ ⟨HG.out.later (bel1 _ _), LB0.out _ HG.out, H1.out.later (bel1 _ _), H2.out.later (bel1 _ _), H3.out.later (bel1 _ _)⟩)
      refine any_cutH (α := Nat × Nat × Nat × Nat) 9 #[true, true, true, true, true, true, false, true, true, false, false, false, true, true, false, false, false, false, false] (fun x => fr11 (.slice ad1 j ca1) (.slice ad2 j ca2) (.slice ad3 j ca3) (.slice (some ⟨gd, 0, none⟩) j j) b0 j u4 u37 u38 u39 u40 u41 u42 u43 u44 u45 u46 u47 u48 u49 u50 u51 u52 u53 u54 u55 u56 u57 u58 (.slice (some ⟨x.1, 0, none⟩) 1 1) (.int .u32 ((s0 : Nat) : Int)) (.slice (some ⟨x.2.1, 0, none⟩) 1 1) undef undef undef undef undef undef) (fun x W => G11 w b0 (.slice ad1 j ca1) (.slice ad2 j ca2) (.slice ad3 j ca3) (.slice (some ⟨gd, 0, none⟩) j j) j fd W ∧ Bt W x.2.1 j f) (fun x q0 hx => ?_) (fun S01_1 => ?_)
      · obtain ⟨hG, k1⟩ := hx
        obtain ⟨x0, x1, x2, x3⟩ := x
        have HG : Hid (G11 w b0 (.slice ad1 j ca1) (.slice ad2 j ca2) (.slice ad3 j ca3) (.slice (some ⟨gd, 0, none⟩) j j) j fd q0) := hG
        have H1 : Hid (Bt q0 x1 j f) := k1
        clear hG k1
        dsimp only [fr11]
        refine wpAnyH_ready (rs := [6, 9, 14]) (by kernel_rfl) (by simp) ?_
        refine AllReadyH.cons rfl (fun K hK => ?_) (AllReadyH.cons rfl (fun K hK => ?_) (AllReadyH.cons rfl (fun K hK => ?_) AllReadyH.nil))
        · go_simp
          refine (CO1.out _ _ HG.out H1.out).mono ?_
          rintro e q1 ⟨rfl, hb⟩
          refine hK.out _ _ (HG.out.later hb).X (fun HS => ?_)
          try simp only [Act.put, List.getElem_toArray, List.getElem_cons_succ, List.getElem_cons_zero, List.setIfInBounds_toArray, List.set_cons_zero, List.set_cons_succ]
          exact anyH_eq (by kernel_rfl) (S01_2.out (x0, x1, x2, x3) _ (HG.out.later hb))
        · go_simp
          refine hK.out _ _ (HG.out.later (bel1 _ _)).X (fun HS => ?_)
          try simp only [Act.put, List.getElem_toArray, List.getElem_cons_succ, List.getElem_cons_zero, List.setIfInBounds_toArray, List.set_cons_zero, List.set_cons_succ]
          exact anyH_eq (by kernel_rfl) (S012_1.out (x0, x1, q0.heap.size, x3) _ ⟨HG.out.later (bel1 _ _), H1.out.later (bel1 _ _), LB2.out _ HG.out⟩)
        · go_simp
          refine hK.out _ _ (HG.out.later (bel1 _ _)).X (fun HS => ?_)
          try simp only [Act.put, List.getElem_toArray, List.getElem_cons_succ, List.getElem_cons_zero, List.setIfInBounds_toArray, List.set_cons_zero, List.set_cons_succ]
          exact anyH_eq (by kernel_rfl) (S013_1.out (x0, x1, x2, q0.heap.size) _ ⟨HG.out.later (bel1 _ _), H1.out.later (bel1 _ _), LB3.out _ HG.out⟩)
      refine any_cutH (α := Nat × Nat × Nat × Nat) 9 #[true, true, true, true, true, false, false, true, true, true, false, false, true, true, false, false, false, false, false] (fun x => fr11 (.slice ad1 j ca1) (.slice ad2 j ca2) (.slice ad3 j ca3) (.slice (some ⟨gd, 0, none⟩) j j) b0 j u4 u37 u38 u39 u40 u41 u42 u43 u44 u45 u46 u47 u48 u49 u50 u51 u52 u53 u54 u55 u56 u57 u58 (.slice (some ⟨x.1, 0, none⟩) 1 1) (.int .u32 ((s0 : Nat) : Int)) undef undef (.slice (some ⟨x.2.2.1, 0, none⟩) 1 1) undef undef undef undef) (fun x W => G11 w b0 (.slice ad1 j ca1) (.slice ad2 j ca2) (.slice ad3 j ca3) (.slice (some ⟨gd, 0, none⟩) j j) j fd W ∧ Bt W x.2.2.1 j g) (fun x q0 hx => ?_) (fun S02_1 => ?_)
      · obtain ⟨hG, k2⟩ := hx
        obtain ⟨x0, x1, x2, x3⟩ := x
        have HG : Hid (G11 w b0 (.slice ad1 j ca1) (.slice ad2 j ca2) (.slice ad3 j ca3) (.slice (some ⟨gd, 0, none⟩) j j) j fd q0) := hG
        have H2 : Hid (Bt q0 x2 j g) := k2
        clear hG k2
        dsimp only [fr11]
        refine wpAnyH_ready (rs := [5, 14]) (by kernel_rfl) (by simp) ?_
        refine AllReadyH.cons rfl (fun K hK => ?_) (AllReadyH.cons rfl (fun K hK => ?_) AllReadyH.nil)
        · go_simp
          refine hK.out _ _ (HG.out.later (bel1 _ _)).X (fun HS => ?_)
          try simp only [Act.put, List.getElem_toArray, List.getElem_cons_succ, List.getElem_cons_zero, List.setIfInBounds_toArray, List.set_cons_zero, List.set_cons_succ]
          exact anyH_eq (by kernel_rfl) (S012_1.out (x0, q0.heap.size, x2, x3) _ ⟨HG.out.later (bel1 _ _), LB1.out _ HG.out, H2.out.later (bel1 _ _)⟩)
        · go_simp
          refine hK.out _ _ (HG.out.later (bel1 _ _)).X (fun HS => ?_)
          try simp only [Act.put, List.getElem_toArray, List.getElem_cons_succ, List.getElem_cons_zero, List.setIfInBounds_toArray, List.set_cons_zero, List.set_cons_succ]
          exact anyH_eq (by kernel_rfl) (S023_1.out (x0, x1, x2, q0.heap.size) _ ⟨HG.out.later (bel1 _ _), H2.out.later (bel1 _ _), LB3.out _ HG.out⟩)
      refine any_cutH (α := Nat × Nat × Nat × Nat) 9 #[true, true, true, true, true, false, false, true, true, false, false, false, true, true, true, false, false, false, false] (fun x => fr11 (.slice ad1 j ca1) (.slice ad2 j ca2) (.slice ad3 j ca3) (.slice (some ⟨gd, 0, none⟩) j j) b0 j u4 u37 u38 u39 u40 u41 u42 u43 u44 u45 u46 u47 u48 u49 u50 u51 u52 u53 u54 u55 u56 u57 u58 (.slice (some ⟨x.1, 0, none⟩) 1 1) (.int .u32 ((s0 : Nat) : Int)) undef undef undef undef undef (.slice (some ⟨x.2.2.2, 0, none⟩) 1 1) undef) (fun x W => G11 w b0 (.slice ad1 j ca1) (.slice ad2 j ca2) (.slice ad3 j ca3) (.slice (some ⟨gd, 0, none⟩) j j) j fd W ∧ Bt W x.2.2.2 j h) (fun x q0 hx => ?_) (fun S03_1 => ?_)
      · obtain ⟨hG, k3⟩ := hx
        obtain ⟨x0, x1, x2, x3⟩ := x
        have HG : Hid (G11 w b0 (.slice ad1 j ca1) (.slice ad2 j ca2) (.slice ad3 j ca3) (.slice (some ⟨gd, 0, none⟩) j j) j fd q0) := hG
        have H3 : Hid (Bt q0 x3 j h) := k3
        clear hG k3
        dsimp only [fr11]
        refine wpAnyH_ready (rs := [5, 9]) (by kernel_rfl) (by simp) ?_
        refine AllReadyH.cons rfl (fun K hK => ?_) (AllReadyH.cons rfl (fun K hK => ?_) AllReadyH.nil)
        · go_simp
          refine hK.out _ _ (HG.out.later (bel1 _ _)).X (fun HS => ?_)
          try simp only [Act.put, List.getElem_toArray, List.getElem_cons_succ, List.getElem_cons_zero, List.setIfInBounds_toArray, List.set_cons_zero, List.set_cons_succ]
          exact anyH_eq (by kernel_rfl) (S013_1.out (x0, q0.heap.size, x2, x3) _ ⟨HG.out.later (bel1 _ _), LB1.out _ HG.out, H3.out.later (bel1 _ _)⟩)
        · go_simp
          refine hK.out _ _ (HG.out.later (bel1 _ _)).X (fun HS => ?_)
          try simp only [Act.put, List.getElem_toArray, List.getElem_cons_succ, List.getElem_cons_zero, List.setIfInBounds_toArray, List.set_cons_zero, List.set_cons_succ]
          exact anyH_eq (by kernel_rfl) (S023_1.out (x0, x1, q0.heap.size, x3) _ ⟨HG.out.later (bel1 _ _), LB2.out _ HG.out, H3.out.later (bel1 _ _)⟩)
      refine any_cutH (α := Nat × Nat × Nat × Nat) 10 #[true, true, false, true, true, true, false, true, true, false, false, false, true, true, false, false, false, false, false] (fun x => fr11 (.slice ad1 j ca1) (.slice ad2 j ca2) (.slice ad3 j ca3) (.slice (some ⟨gd, 0, none⟩) j j) b0 j u4 u37 u38 u39 u40 u41 u42 u43 u44 u45 u46 u47 u48 u49 u50 u51 u52 u53 u54 u55 u56 u57 u58 (.slice (some ⟨x.1, 0, none⟩) 1 1) undef (.slice (some ⟨x.2.1, 0, none⟩) 1 1) undef undef undef undef undef undef) (fun x W => G11 w b0 (.slice ad1 j ca1) (.slice ad2 j ca2) (.slice ad3 j ca3) (.slice (some ⟨gd, 0, none⟩) j j) j fd W ∧ Bt W x.1 j fd ∧ Bt W x.2.1 j f) (fun x q0 hx => ?_) (fun S01_0 => ?_)
      · obtain ⟨hG, k0, k1⟩ := hx
        obtain ⟨x0, x1, x2, x3⟩ := x
        have HG : Hid (G11 w b0 (.slice ad1 j ca1) (.slice ad2 j ca2) (.slice ad3 j ca3) (.slice (some ⟨gd, 0, none⟩) j j) j fd q0) := hG
        have H0 : Hid (Bt q0 x0 j fd) := k0
        have H1 : Hid (Bt q0 x1 j f) := k1
        clear hG k0 k1
        dsimp only [fr11]
        refine wpAnyH_ready (rs := [2, 9, 14]) (by kernel_rfl) (by simp) ?_
        refine AllReadyH.cons rfl (fun K hK => ?_) (AllReadyH.cons rfl (fun K hK => ?_) (AllReadyH.cons rfl (fun K hK => ?_) AllReadyH.nil))
        · go_simp
          refine (CO0.out _ _ HG.out H0.out).mono ?_
          rintro e q1 ⟨rfl, hb⟩
          refine hK.out _ _ (HG.out.later hb).X (fun HS => ?_)
          try simp only [Act.put, List.getElem_toArray, List.getElem_cons_succ, List.getElem_cons_zero, List.setIfInBounds_toArray, List.set_cons_zero, List.set_cons_succ]
          exact anyH_eq (by kernel_rfl) (S01_1.out (x0, x1, x2, x3) _ ⟨HG.out.later hb, H1.out.later hb⟩)
        · go_simp
          refine hK.out _ _ (HG.out.later (bel1 _ _)).X (fun HS => ?_)
          try simp only [Act.put, List.getElem_toArray, List.getElem_cons_succ, List.getElem_cons_zero, List.setIfInBounds_toArray, List.set_cons_zero, List.set_cons_succ]
          exact anyH_eq (by kernel_rfl) (S012_0.out (x0, x1, q0.heap.size, x3) _ ⟨HG.out.later (bel1 _ _), H0.out.later (bel1 _ _), H1.out.later (bel1 _ _), LB2.out _ HG.out⟩)
        · go_simp
          refine hK.out _ _ (HG.out.later (bel1 _ _)).X (fun HS => ?_)
          try simp only [Act.put, List.getElem_toArray, List.getElem_cons_succ, List.getElem_cons_zero, List.setIfInBounds_toArray, List.set_cons_zero, List.set_cons_succ]
          exact anyH_eq (by kernel_rfl) (S013_0.out (x0, x1, x2, q0.heap.size) _ ⟨HG.out.later (bel1 _ _), H0.out.later (bel1 _ _), H1.out.later (bel1 _ _), LB3.out _ HG.out⟩)
      refine any_cutH (α := Nat × Nat × Nat × Nat) 10 #[true, true, false, true, true, false, false, true, true, true, false, false, true, true, false, false, false, false, false] (fun x => fr11 (.slice ad1 j ca1) (.slice ad2 j ca2) (.slice ad3 j ca3) (.slice (some ⟨gd, 0, none⟩) j j) b0 j u4 u37 u38 u39 u40 u41 u42 u43 u44 u45 u46 u47 u48 u49 u50 u51 u52 u53 u54 u55 u56 u57 u58 (.slice (some ⟨x.1, 0, none⟩) 1 1) undef undef undef (.slice (some ⟨x.2.2.1, 0, none⟩) 1 1) undef undef undef undef) (fun x W => G11 w b0 (.slice ad1 j ca1) (.slice ad2 j ca2) (.slice ad3 j ca3) (.slice (some ⟨gd, 0, none⟩) j j) j fd W ∧ Bt W x.1 j fd ∧ Bt W x.2.2.1 j g) (fun x q0 hx => ?_) (fun S02_0 => ?_)
      · obtain ⟨hG, k0, k2⟩ := hx
        obtain ⟨x0, x1, x2, x3⟩ := x
        have HG : Hid (G11 w b0 (.slice ad1 j ca1) (.slice ad2 j ca2) (.slice ad3 j ca3) (.slice (some ⟨gd, 0, none⟩) j j) j fd q0) := hG
        have H0 : Hid (Bt q0 x0 j fd) := k0
        have H2 : Hid (Bt q0 x2 j g) := k2
        clear hG k0 k2
        dsimp only [fr11]
        refine wpAnyH_ready (rs := [2, 5, 14]) (by kernel_rfl) (by simp) ?_
        refine AllReadyH.cons rfl (fun K hK => ?_) (AllReadyH.cons rfl (fun K hK => ?_) (AllReadyH.cons rfl (fun K hK => ?_) AllReadyH.nil))
        · go_simp
          refine (CO0.out _ _ HG.out H0.out).mono ?_
          rintro e q1 ⟨rfl, hb⟩
          refine hK.out _ _ (HG.out.later hb).X (fun HS => ?_)
          try simp only [Act.put, List.getElem_toArray, List.getElem_cons_succ, List.getElem_cons_zero, List.setIfInBounds_toArray, List.set_cons_zero, List.set_cons_succ]
          exact anyH_eq (by kernel_rfl) (S02_1.out (x0, x1, x2, x3) _ ⟨HG.out.later hb, H2.out.later hb⟩)
        · go_simp
          refine hK.out _ _ (HG.out.later (bel1 _ _)).X (fun HS => ?_)
          try simp only [Act.put, List.getElem_toArray, List.getElem_cons_succ, List.getElem_cons_zero, List.setIfInBounds_toArray, List.set_cons_zero, List.set_cons_succ]
          exact anyH_eq (by kernel_rfl) (S012_0.out (x0, q0.heap.size, x2, x3) _ ⟨HG.out.later (bel1 _ _), H0.out.later (bel1 _ _), LB1.out _ HG.out, H2.out.later (bel1 _ _)⟩)
        · go_simp
          refine hK.out _ _ (HG.out.later (bel1 _ _)).X (fun HS => ?_)
          try simp only [Act.put, List.getElem_toArray, List.getElem_cons_succ, List.getElem_cons_zero, List.setIfInBounds_toArray, List.set_cons_zero, List.set_cons_succ]
          exact anyH_eq (by kernel_rfl) (S023_0.out (x0, x1, x2, q0.heap.size) _ ⟨HG.out.later (bel1 _ _), H0.out.later (bel1 _ _), H2.out.later (bel1 _ _), LB3.out _ HG.out⟩)
      refine any_cutH (α := Nat × Nat × Nat × Nat) 10 #[true, true, false, true, true, false, false, true, true, false, false, false, true, true, true, false, false, false, false] (fun x => fr11 (.slice ad1 j ca1) (.slice ad2 j ca2) (.slice ad3 j ca3) (.slice (some ⟨gd, 0, none⟩) j j) b0 j u4 u37 u38 u39 u40 u41 u42 u43 u44 u45 u46 u47 u48 u49 u50 u51 u52 u53 u54 u55 u56 u57 u58 (.slice (some ⟨x.1, 0, none⟩) 1 1) undef undef undef undef undef undef (.slice (some ⟨x.2.2.2, 0, none⟩) 1 1) undef) (fun x W => G11 w b0 (.slice ad1 j ca1) (.slice ad2 j ca2) (.slice ad3 j ca3) (.slice (some ⟨gd, 0, none⟩) j j) j fd W ∧ Bt W x.1 j fd ∧ Bt W x.2.2.2 j h) (fun x q0 hx => ?_) (fun S03_0 => ?_)
      · obtain ⟨hG, k0, k3⟩ := hx
        obtain ⟨x0, x1, x2, x3⟩ := x
        have HG : Hid (G11 w b0 (.slice ad1 j ca1) (.slice ad2 j ca2) (.slice ad3 j ca3) (.slice (some ⟨gd, 0, none⟩) j j) j fd q0) := hG
        have H0 : Hid (Bt q0 x0 j fd) := k0
        have H3 : Hid (Bt q0 x3 j h) := k3
        clear hG k0 k3
        dsimp only [fr11]
        refine wpAnyH_ready (rs := [2, 5, 9]) (by kernel_rfl) (by simp) ?_
        refine AllReadyH.cons rfl (fun K hK => ?_) (AllReadyH.cons rfl (fun K hK => ?_) (AllReadyH.cons rfl (fun K hK => ?_) AllReadyH.nil))
        · go_simp
          refine (CO0.out _ _ HG.out H0.out).mono ?_
          rintro e q1 ⟨rfl, hb⟩
          refine hK.out _ _ (HG.out.later hb).X (fun HS => ?_)
          try simp only [Act.put, List.getElem_toArray, List.getElem_cons_succ, List.getElem_cons_zero, List.setIfInBounds_toArray, List.set_cons_zero, List.set_cons_succ]
          exact anyH_eq (by kernel_rfl) (S03_1.out (x0, x1, x2, x3) _ ⟨HG.out.later hb, H3.out.later hb⟩)
        · go_simp
          refine hK.out _ _ (HG.out.later (bel1 _ _)).X (fun HS => ?_)
          try simp only [Act.put, List.getElem_toArray, List.getElem_cons_succ, List.getElem_cons_zero, List.setIfInBounds_toArray, List.set_cons_zero, List.set_cons_succ]
          exact anyH_eq (by kernel_rfl) (S013_0.out (x0, q0.heap.size, x2, x3) _ ⟨HG.out.later (bel1 _ _), H0.out.later (bel1 _ _), LB1.out _ HG.out, H3.out.later (bel1 _ _)⟩)
        · go_simp
          refine hK.out _ _ (HG.out.later (bel1 _ _)).X (fun HS => ?_)
          try simp only [Act.put, List.getElem_toArray, List.getElem_cons_succ, List.getElem_cons_zero, List.setIfInBounds_toArray, List.set_cons_zero, List.set_cons_succ]
          exact anyH_eq (by kernel_rfl) (S023_0.out (x0, x1, q0.heap.size, x3) _ ⟨HG.out.later (bel1 _ _), H0.out.later (bel1 _ _), LB2.out _ HG.out, H3.out.later (bel1 _ _)⟩)
      refine any_cutH (α := Nat × Nat × Nat × Nat) 10 #[true, false, false, true, true, true, false, true, true, true, false, false, true, true, false, false, false, false, false] (fun x => fr11 (.slice ad1 j ca1) (.slice ad2 j ca2) (.slice ad3 j ca3) (.slice (some ⟨gd, 0, none⟩) j j) b0 j u4 u37 u38 u39 u40 u41 u42 u43 u44 u45 u46 u47 u48 u49 u50 u51 u52 u53 u54 u55 u56 u57 u58 undef undef (.slice (some ⟨x.2.1, 0, none⟩) 1 1) undef (.slice (some ⟨x.2.2.1, 0, none⟩) 1 1) undef undef undef undef) (fun x W => G11 w b0 (.slice ad1 j ca1) (.slice ad2 j ca2) (.slice ad3 j ca3) (.slice (some ⟨gd, 0, none⟩) j j) j fd W ∧ Bt W x.2.1 j f ∧ Bt W x.2.2.1 j g) (fun x q0 hx => ?_) (fun S12_0 => ?_)
      · obtain ⟨hG, k1, k2⟩ := hx
        obtain ⟨x0, x1, x2, x3⟩ := x
        have HG : Hid (G11 w b0 (.slice ad1 j ca1) (.slice ad2 j ca2) (.slice ad3 j ca3) (.slice (some ⟨gd, 0, none⟩) j j) j fd q0) := hG
        have H1 : Hid (Bt q0 x1 j f) := k1
        have H2 : Hid (Bt q0 x2 j g) := k2
        clear hG k1 k2
        dsimp only [fr11]
        refine wpAnyH_ready (rs := [1, 14]) (by kernel_rfl) (by simp) ?_
        refine AllReadyH.cons rfl (fun K hK => ?_) (AllReadyH.cons rfl (fun K hK => ?_) AllReadyH.nil)
        · go_simp
          refine hK.out _ _ (HG.out.later (bel1 _ _)).X (fun HS => ?_)
          try simp only [Act.put, List.getElem_toArray, List.getElem_cons_succ, List.getElem_cons_zero, List.setIfInBounds_toArray, List.set_cons_zero, List.set_cons_succ]
          exact anyH_eq (by kernel_rfl) (S012_0.out (q0.heap.size, x1, x2, x3) _ ⟨HG.out.later (bel1 _ _), LB0.out _ HG.out, H1.out.later (bel1 _ _), H2.out.later (bel1 _ _)⟩)
        · go_simp
          refine hK.out _ _ (HG.out.later (bel1 _ _)).X (fun HS => ?_)
          try simp only [Act.put, List.getElem_toArray, List.getElem_cons_succ, List.getElem_cons_zero, List.setIfInBounds_toArray, List.set_cons_zero, List.set_cons_succ]
          exact anyH_eq (by kernel_rfl) (S123_0.out (x0, x1, x2, q0.heap.size) _ ⟨HG.out.later (bel1 _ _), H1.out.later (bel1 _ _), H2.out.later (bel1 _ _), LB3.out _ HG.out⟩)
      refine any_cutH (α := Nat × Nat × Nat × Nat) 10 #[true, false, false, true, true, true, false, true, true, false, false, false, true, true, true, false, false, false, false] (fun x => fr11 (.slice ad1 j ca1) (.slice ad2 j ca2) (.slice ad3 j ca3) (.slice (some ⟨gd, 0, none⟩) j j) b0 j u4 u37 u38 u39 u40 u41 u42 u43 u44 u45 u46 u47 u48 u49 u50 u51 u52 u53 u54 u55 u56 u57 u58 undef undef (.slice (some ⟨x.2.1, 0, none⟩) 1 1) undef undef undef undef (.slice (some ⟨x.2.2.2, 0, none⟩) 1 1) undef) (fun x W => G11 w b0 (.slice ad1 j ca1) (.slice ad2 j ca2) (.slice ad3 j ca3) (.slice (some ⟨gd, 0, none⟩) j j) j fd W ∧ Bt W x.2.1 j f ∧ Bt W x.2.2.2 j h) (fun x q0 hx => ?_) (fun S13_0 => ?_)
      · obtain ⟨hG, k1, k3⟩ := hx
        obtain ⟨x0, x1, x2, x3⟩ := x
        have HG : Hid (G11 w b0 (.slice ad1 j ca1) (.slice ad2 j ca2) (.slice ad3 j ca3) (.slice (some ⟨gd, 0, none⟩) j j) j fd q0) := hG
        have H1 : Hid (Bt q0 x1 j f) := k1
        have H3 : Hid (Bt q0 x3 j h) := k3
        clear hG k1 k3
        dsimp only [fr11]
        refine wpAnyH_ready (rs := [1, 9]) (by kernel_rfl) (by simp) ?_
        refine AllReadyH.cons rfl (fun K hK => ?_) (AllReadyH.cons rfl (fun K hK => ?_) AllReadyH.nil)
        · go_simp
          refine hK.out _ _ (HG.out.later (bel1 _ _)).X (fun HS => ?_)
          try simp only [Act.put, List.getElem_toArray, List.getElem_cons_succ, List.getElem_cons_zero, List.setIfInBounds_toArray, List.set_cons_zero, List.set_cons_succ]
          exact anyH_eq (by kernel_rfl) (S013_0.out (q0.heap.size, x1, x2, x3) _ ⟨HG.out.later (bel1 _ _), LB0.out _ HG.out, H1.out.later (bel1 _ _), H3.out.later (bel1 _ _)⟩)
        · go_simp
          refine hK.out _ _ (HG.out.later (bel1 _ _)).X (fun HS => ?_)
          try simp only [Act.put, List.getElem_toArray, List.getElem_cons_succ, List.getElem_cons_zero, List.setIfInBounds_toArray, List.set_cons_zero, List.set_cons_succ]
          exact anyH_eq (by kernel_rfl) (S123_0.out (x0, x1, q0.heap.size, x3) _ ⟨HG.out.later (bel1 _ _), H1.out.later (bel1 _ _), LB2.out _ HG.out, H3.out.later (bel1 _ _)⟩)
      refine any_cutH (α := Nat × Nat × Nat × Nat) 10 #[true, false, false, true, true, false, false, true, true, true, false, false, true, true, true, false, false, false, false] (fun x => fr11 (.slice ad1 j ca1) (.slice ad2 j ca2) (.slice ad3 j ca3) (.slice (some ⟨gd, 0, none⟩) j j) b0 j u4 u37 u38 u39 u40 u41 u42 u43 u44 u45 u46 u47 u48 u49 u50 u51 u52 u53 u54 u55 u56 u57 u58 undef undef undef undef (.slice (some ⟨x.2.2.1, 0, none⟩) 1 1) undef undef (.slice (some ⟨x.2.2.2, 0, none⟩) 1 1) undef) (fun x W => G11 w b0 (.slice ad1 j ca1) (.slice ad2 j ca2) (.slice ad3 j ca3) (.slice (some ⟨gd, 0, none⟩) j j) j fd W ∧ Bt W x.2.2.1 j g ∧ Bt W x.2.2.2 j h) (fun x q0 hx => ?_) (fun S23_0 => ?_)
      · obtain ⟨hG, k2, k3⟩ := hx
        obtain ⟨x0, x1, x2, x3⟩ := x
        have HG : Hid (G11 w b0 (.slice ad1 j ca1) (.slice ad2 j ca2) (.slice ad3 j ca3) (.slice (some ⟨gd, 0, none⟩) j j) j fd q0) := hG
        have H2 : Hid (Bt q0 x2 j g) := k2
        have H3 : Hid (Bt q0 x3 j h) := k3
        clear hG k2 k3
        dsimp only [fr11]
        refine wpAnyH_ready (rs := [1, 5]) (by kernel_rfl) (by simp) ?_
        refine AllReadyH.cons rfl (fun K hK => ?_) (AllReadyH.cons rfl (fun K hK => ?_) AllReadyH.nil)
        · go_simp
          refine hK.out _ _ (HG.out.later (bel1 _ _)).X (fun HS => ?_)
          try simp only [Act.put, List.getElem_toArray, List.getElem_cons_succ, List.getElem_cons_zero, List.setIfInBounds_toArray, List.set_cons_zero, List.set_cons_succ]
          exact anyH_eq (by kernel_rfl) (S023_0.out (q0.heap.size, x1, x2, x3) _ ⟨HG.out.later (bel1 _ _), LB0.out _ HG.out, H2.out.later (bel1 _ _), H3.out.later (bel1 _ _)⟩)
        · go_simp
          refine hK.out _ _ (HG.out.later (bel1 _ _)).X (fun HS => ?_)
          try simp only [Act.put, List.getElem_toArray, List.getElem_cons_succ, List.getElem_cons_zero, List.setIfInBounds_toArray, List.set_cons_zero, List.set_cons_succ]
          exact anyH_eq (by kernel_rfl) (S123_0.out (x0, q0.heap.size, x2, x3) _ ⟨HG.out.later (bel1 _ _), LB1.out _ HG.out, H2.out.later (bel1 _ _), H3.out.later (bel1 _ _)⟩)
      refine any_cutH (α := Nat × Nat × Nat × Nat) 10 #[true, true, true, true, true, false, false, true, true, false, false, false, true, true, false, false, false, false, false] (fun x => fr11 (.slice ad1 j ca1) (.slice ad2 j ca2) (.slice ad3 j ca3) (.slice (some ⟨gd, 0, none⟩) j j) b0 j u4 u37 u38 u39 u40 u41 u42 u43 u44 u45 u46 u47 u48 u49 u50 u51 u52 u53 u54 u55 u56 u57 u58 (.slice (some ⟨x.1, 0, none⟩) 1 1) (.int .u32 ((s0 : Nat) : Int)) undef undef undef undef undef undef undef) (fun x W => G11 w b0 (.slice ad1 j ca1) (.slice ad2 j ca2) (.slice ad3 j ca3) (.slice (some ⟨gd, 0, none⟩) j j) j fd W) (fun x q0 hx => ?_) (fun S0_1 => ?_)
      · have hG := hx
        obtain ⟨x0, x1, x2, x3⟩ := x
        have HG : Hid (G11 w b0 (.slice ad1 j ca1) (.slice ad2 j ca2) (.slice ad3 j ca3) (.slice (some ⟨gd, 0, none⟩) j j) j fd q0) := hG
        clear hx hG 
        dsimp only [fr11]
        refine wpAnyH_ready (rs := [5, 9, 14]) (by kernel_rfl) (by simp) ?_
        refine AllReadyH.cons rfl (fun K hK => ?_) (AllReadyH.cons rfl (fun K hK => ?_) (AllReadyH.cons rfl (fun K hK => ?_) AllReadyH.nil))
        · go_simp
          refine hK.out _ _ (HG.out.later (bel1 _ _)).X (fun HS => ?_)
          try simp only [Act.put, List.getElem_toArray, List.getElem_cons_succ, List.getElem_cons_zero, List.setIfInBounds_toArray, List.set_cons_zero, List.set_cons_succ]
          exact anyH_eq (by kernel_rfl) (S01_1.out (x0, q0.heap.size, x2, x3) _ ⟨HG.out.later (bel1 _ _), LB1.out _ HG.out⟩)
        · go_simp
          refine hK.out _ _ (HG.out.later (bel1 _ _)).X (fun HS => ?_)
          try simp only [Act.put, List.getElem_toArray, List.getElem_cons_succ, List.getElem_cons_zero, List.setIfInBounds_toArray, List.set_cons_zero, List.set_cons_succ]
          exact anyH_eq (by kernel_rfl) (S02_1.out (x0, x1, q0.heap.size, x3) _ ⟨HG.out.later (bel1 _ _), LB2.out _ HG.out⟩)
        · go_simp
          refine hK.out _ _ (HG.out.later (bel1 _ _)).X (fun HS => ?_)
          try simp only [Act.put, List.getElem_toArray, List.getElem_cons_succ, List.getElem_cons_zero, List.setIfInBounds_toArray, List.set_cons_zero, List.set_cons_succ]
          exact anyH_eq (by kernel_rfl) (S03_1.out (x0, x1, x2, q0.heap.size) _ ⟨HG.out.later (bel1 _ _), LB3.out _ HG.out⟩)
      refine any_cutH (α := Nat × Nat × Nat × Nat) 11 #[true, true, false, true, true, false, false, true, true, false, false, false, true, true, false, false, false, false, false] (fun x => fr11 (.slice ad1 j ca1) (.slice ad2 j ca2) (.slice ad3 j ca3) (.slice (some ⟨gd, 0, none⟩) j j) b0 j u4 u37 u38 u39 u40 u41 u42 u43 u44 u45 u46 u47 u48 u49 u50 u51 u52 u53 u54 u55 u56 u57 u58 (.slice (some ⟨x.1, 0, none⟩) 1 1) undef undef undef undef undef undef undef undef) (fun x W => G11 w b0 (.slice ad1 j ca1) (.slice ad2 j ca2) (.slice ad3 j ca3) (.slice (some ⟨gd, 0, none⟩) j j) j fd W ∧ Bt W x.1 j fd) (fun x q0 hx => ?_) (fun S0_0 => ?_)
      · obtain ⟨hG, k0⟩ := hx
        obtain ⟨x0, x1, x2, x3⟩ := x
        have HG : Hid (G11 w b0 (.slice ad1 j ca1) (.slice ad2 j ca2) (.slice ad3 j ca3) (.slice (some ⟨gd, 0, none⟩) j j) j fd q0) := hG
        have H0 : Hid (Bt q0 x0 j fd) := k0
        clear hG k0
        dsimp only [fr11]
        refine wpAnyH_ready (rs := [2, 5, 9, 14]) (by kernel_rfl) (by simp) ?_
        refine AllReadyH.cons rfl (fun K hK => ?_) (AllReadyH.cons rfl (fun K hK => ?_) (AllReadyH.cons rfl (fun K hK => ?_) (AllReadyH.cons rfl (fun K hK => ?_) AllReadyH.nil)))
        · go_simp
          refine (CO0.out _ _ HG.out H0.out).mono ?_
          rintro e q1 ⟨rfl, hb⟩
          refine hK.out _ _ (HG.out.later hb).X (fun HS => ?_)
          try simp only [Act.put, List.getElem_toArray, List.getElem_cons_succ, List.getElem_cons_zero, List.setIfInBounds_toArray, List.set_cons_zero, List.set_cons_succ]
          exact anyH_eq (by kernel_rfl) (S0_1.out (x0, x1, x2, x3) _ (HG.out.later hb))
        · go_simp
          refine hK.out _ _ (HG.out.later (bel1 _ _)).X (fun HS => ?_)
          try simp only [Act.put, List.getElem_toArray, List.getElem_cons_succ, List.getElem_cons_zero, List.setIfInBounds_toArray, List.set_cons_zero, List.set_cons_succ]
          exact anyH_eq (by kernel_rfl) (S01_0.out (x0, q0.heap.size, x2, x3) _ ⟨HG.out.later (bel1 _ _), H0.out.later (bel1 _ _), LB1.out _ HG.out⟩)
        · go_simp
          refine hK.out _ _ (HG.out.later (bel1 _ _)).X (fun HS => ?_)
          try simp only [Act.put, List.getElem_toArray, List.getElem_cons_succ, List.getElem_cons_zero, List.setIfInBounds_toArray, List.set_cons_zero, List.set_cons_succ]
          exact anyH_eq (by kernel_rfl) (S02_0.out (x0, x1, q0.heap.size, x3) _ ⟨HG.out.later (bel1 _ _), H0.out.later (bel1 _ _), LB2.out _ HG.out⟩)
        · go_simp
          refine hK.out _ _ (HG.out.later (bel1 _ _)).X (fun HS => ?_)
          try simp only [Act.put, List.getElem_toArray, List.getElem_cons_succ, List.getElem_cons_zero, List.setIfInBounds_toArray, List.set_cons_zero, List.set_cons_succ]
          exact anyH_eq (by kernel_rfl) (S03_0.out (x0, x1, x2, q0.heap.size) _ ⟨HG.out.later (bel1 _ _), H0.out.later (bel1 _ _), LB3.out _ HG.out⟩)
      refine any_cutH (α := Nat × Nat × Nat × Nat) 11 #[true, false, false, true, true, true, false, true, true, false, false, false, true, true, false, false, false, false, false] (fun x => fr11 (.slice ad1 j ca1) (.slice ad2 j ca2) (.slice ad3 j ca3) (.slice (some ⟨gd, 0, none⟩) j j) b0 j u4 u37 u38 u39 u40 u41 u42 u43 u44 u45 u46 u47 u48 u49 u50 u51 u52 u53 u54 u55 u56 u57 u58 undef undef (.slice (some ⟨x.2.1, 0, none⟩) 1 1) undef undef undef undef undef undef) (fun x W => G11 w b0 (.slice ad1 j ca1) (.slice ad2 j ca2) (.slice ad3 j ca3) (.slice (some ⟨gd, 0, none⟩) j j) j fd W ∧ Bt W x.2.1 j f) (fun x q0 hx => ?_) (fun S1_0 => ?_)
      · obtain ⟨hG, k1⟩ := hx
        obtain ⟨x0, x1, x2, x3⟩ := x
        have HG : Hid (G11 w b0 (.slice ad1 j ca1) (.slice ad2 j ca2) (.slice ad3 j ca3) (.slice (some ⟨gd, 0, none⟩) j j) j fd q0) := hG
        have H1 : Hid (Bt q0 x1 j f) := k1
        clear hG k1
        dsimp only [fr11]
        refine wpAnyH_ready (rs := [1, 9, 14]) (by kernel_rfl) (by simp) ?_
        refine AllReadyH.cons rfl (fun K hK => ?_) (AllReadyH.cons rfl (fun K hK => ?_) (AllReadyH.cons rfl (fun K hK => ?_) AllReadyH.nil))
        · go_simp
          refine hK.out _ _ (HG.out.later (bel1 _ _)).X (fun HS => ?_)
          try simp only [Act.put, List.getElem_toArray, List.getElem_cons_succ, List.getElem_cons_zero, List.setIfInBounds_toArray, List.set_cons_zero, List.set_cons_succ]
          exact anyH_eq (by kernel_rfl) (S01_0.out (q0.heap.size, x1, x2, x3) _ ⟨HG.out.later (bel1 _ _), LB0.out _ HG.out, H1.out.later (bel1 _ _)⟩)
        · go_simp
          refine hK.out _ _ (HG.out.later (bel1 _ _)).X (fun HS => ?_)
          try simp only [Act.put, List.getElem_toArray, List.getElem_cons_succ, List.getElem_cons_zero, List.setIfInBounds_toArray, List.set_cons_zero, List.set_cons_succ]
          exact anyH_eq (by kernel_rfl) (S12_0.out (x0, x1, q0.heap.size, x3) _ ⟨HG.out.later (bel1 _ _), H1.out.later (bel1 _ _), LB2.out _ HG.out⟩)
        · go_simp
          refine hK.out _ _ (HG.out.later (bel1 _ _)).X (fun HS => ?_)
          try simp only [Act.put, List.getElem_toArray, List.getElem_cons_succ, List.getElem_cons_zero, List.setIfInBounds_toArray, List.set_cons_zero, List.set_cons_succ]
          exact anyH_eq (by kernel_rfl) (S13_0.out (x0, x1, x2, q0.heap.size) _ ⟨HG.out.later (bel1 _ _), H1.out.later (bel1 _ _), LB3.out _ HG.out⟩)
      refine any_cutH (α := Nat × Nat × Nat × Nat) 11 #[true, false, false, true, true, false, false, true, true, true, false, false, true, true, false, false, false, false, false] (fun x => fr11 (.slice ad1 j ca1) (.slice ad2 j ca2) (.slice ad3 j ca3) (.slice (some ⟨gd, 0, none⟩) j j) b0 j u4 u37 u38 u39 u40 u41 u42 u43 u44 u45 u46 u47 u48 u49 u50 u51 u52 u53 u54 u55 u56 u57 u58 undef undef undef undef (.slice (some ⟨x.2.2.1, 0, none⟩) 1 1) undef undef undef undef) (fun x W => G11 w b0 (.slice ad1 j ca1) (.slice ad2 j ca2) (.slice ad3 j ca3) (.slice (some ⟨gd, 0, none⟩) j j) j fd W ∧ Bt W x.2.2.1 j g) (fun x q0 hx => ?_) (fun S2_0 => ?_)
      · obtain ⟨hG, k2⟩ := hx
        obtain ⟨x0, x1, x2, x3⟩ := x
        have HG : Hid (G11 w b0 (.slice ad1 j ca1) (.slice ad2 j ca2) (.slice ad3 j ca3) (.slice (some ⟨gd, 0, none⟩) j j) j fd q0) := hG
        have H2 : Hid (Bt q0 x2 j g) := k2
        clear hG k2
        dsimp only [fr11]
        refine wpAnyH_ready (rs := [1, 5, 14]) (by kernel_rfl) (by simp) ?_
        refine AllReadyH.cons rfl (fun K hK => ?_) (AllReadyH.cons rfl (fun K hK => ?_) (AllReadyH.cons rfl (fun K hK => ?_) AllReadyH.nil))
        · go_simp
          refine hK.out _ _ (HG.out.later (bel1 _ _)).X (fun HS => ?_)
          try simp only [Act.put, List.getElem_toArray, List.getElem_cons_succ, List.getElem_cons_zero, List.setIfInBounds_toArray, List.set_cons_zero, List.set_cons_succ]
          exact anyH_eq (by kernel_rfl) (S02_0.out (q0.heap.size, x1, x2, x3) _ ⟨HG.out.later (bel1 _ _), LB0.out _ HG.out, H2.out.later (bel1 _ _)⟩)
        · go_simp
          refine hK.out _ _ (HG.out.later (bel1 _ _)).X (fun HS => ?_)
          try simp only [Act.put, List.getElem_toArray, List.getElem_cons_succ, List.getElem_cons_zero, List.setIfInBounds_toArray, List.set_cons_zero, List.set_cons_succ]
          exact anyH_eq (by kernel_rfl) (S12_0.out (x0, q0.heap.size, x2, x3) _ ⟨HG.out.later (bel1 _ _), LB1.out _ HG.out, H2.out.later (bel1 _ _)⟩)
        · go_simp
          refine hK.out _ _ (HG.out.later (bel1 _ _)).X (fun HS => ?_)
          try simp only [Act.put, List.getElem_toArray, List.getElem_cons_succ, List.getElem_cons_zero, List.setIfInBounds_toArray, List.set_cons_zero, List.set_cons_succ]
          exact anyH_eq (by kernel_rfl) (S23_0.out (x0, x1, x2, q0.heap.size) _ ⟨HG.out.later (bel1 _ _), H2.out.later (bel1 _ _), LB3.out _ HG.out⟩)
      refine any_cutH (α := Nat × Nat × Nat × Nat) 11 #[true, false, false, true, true, false, false, true, true, false, false, false, true, true, true, false, false, false, false] (fun x => fr11 (.slice ad1 j ca1) (.slice ad2 j ca2) (.slice ad3 j ca3) (.slice (some ⟨gd, 0, none⟩) j j) b0 j u4 u37 u38 u39 u40 u41 u42 u43 u44 u45 u46 u47 u48 u49 u50 u51 u52 u53 u54 u55 u56 u57 u58 undef undef undef undef undef undef undef (.slice (some ⟨x.2.2.2, 0, none⟩) 1 1) undef) (fun x W => G11 w b0 (.slice ad1 j ca1) (.slice ad2 j ca2) (.slice ad3 j ca3) (.slice (some ⟨gd, 0, none⟩) j j) j fd W ∧ Bt W x.2.2.2 j h) (fun x q0 hx => ?_) (fun S3_0 => ?_)
      · obtain ⟨hG, k3⟩ := hx
        obtain ⟨x0, x1, x2, x3⟩ := x
        have HG : Hid (G11 w b0 (.slice ad1 j ca1) (.slice ad2 j ca2) (.slice ad3 j ca3) (.slice (some ⟨gd, 0, none⟩) j j) j fd q0) := hG
        have H3 : Hid (Bt q0 x3 j h) := k3
        clear hG k3
        dsimp only [fr11]
        refine wpAnyH_ready (rs := [1, 5, 9]) (by kernel_rfl) (by simp) ?_
        refine AllReadyH.cons rfl (fun K hK => ?_) (AllReadyH.cons rfl (fun K hK => ?_) (AllReadyH.cons rfl (fun K hK => ?_) AllReadyH.nil))
        · go_simp
          refine hK.out _ _ (HG.out.later (bel1 _ _)).X (fun HS => ?_)
          try simp only [Act.put, List.getElem_toArray, List.getElem_cons_succ, List.getElem_cons_zero, List.setIfInBounds_toArray, List.set_cons_zero, List.set_cons_succ]
          exact anyH_eq (by kernel_rfl) (S03_0.out (q0.heap.size, x1, x2, x3) _ ⟨HG.out.later (bel1 _ _), LB0.out _ HG.out, H3.out.later (bel1 _ _)⟩)
        · go_simp
          refine hK.out _ _ (HG.out.later (bel1 _ _)).X (fun HS => ?_)
          try simp only [Act.put, List.getElem_toArray, List.getElem_cons_succ, List.getElem_cons_zero, List.setIfInBounds_toArray, List.set_cons_zero, List.set_cons_succ]
          exact anyH_eq (by kernel_rfl) (S13_0.out (x0, q0.heap.size, x2, x3) _ ⟨HG.out.later (bel1 _ _), LB1.out _ HG.out, H3.out.later (bel1 _ _)⟩)
        · go_simp
          refine hK.out _ _ (HG.out.later (bel1 _ _)).X (fun HS => ?_)
          try simp only [Act.put, List.getElem_toArray, List.getElem_cons_succ, List.getElem_cons_zero, List.setIfInBounds_toArray, List.set_cons_zero, List.set_cons_succ]
          exact anyH_eq (by kernel_rfl) (S23_0.out (x0, x1, q0.heap.size, x3) _ ⟨HG.out.later (bel1 _ _), LB2.out _ HG.out, H3.out.later (bel1 _ _)⟩)
      refine any_cutH (α := Nat × Nat × Nat × Nat) 12 #[true, false, false, true, true, false, false, true, true, false, false, false, true, true, false, false, false, false, false] (fun x => fr11 (.slice ad1 j ca1) (.slice ad2 j ca2) (.slice ad3 j ca3) (.slice (some ⟨gd, 0, none⟩) j j) b0 j u4 u37 u38 u39 u40 u41 u42 u43 u44 u45 u46 u47 u48 u49 u50 u51 u52 u53 u54 u55 u56 u57 u58 undef undef undef undef undef undef undef undef undef) (fun x W => G11 w b0 (.slice ad1 j ca1) (.slice ad2 j ca2) (.slice ad3 j ca3) (.slice (some ⟨gd, 0, none⟩) j j) j fd W) (fun x q0 hx => ?_) (fun S_0 => ?_)
      · have hG := hx
        obtain ⟨x0, x1, x2, x3⟩ := x
        have HG : Hid (G11 w b0 (.slice ad1 j ca1) (.slice ad2 j ca2) (.slice ad3 j ca3) (.slice (some ⟨gd, 0, none⟩) j j) j fd q0) := hG
        clear hx hG 
        dsimp only [fr11]
        refine wpAnyH_ready (rs := [1, 5, 9, 14]) (by kernel_rfl) (by simp) ?_
        refine AllReadyH.cons rfl (fun K hK => ?_) (AllReadyH.cons rfl (fun K hK => ?_) (AllReadyH.cons rfl (fun K hK => ?_) (AllReadyH.cons rfl (fun K hK => ?_) AllReadyH.nil)))
        · go_simp
          refine hK.out _ _ (HG.out.later (bel1 _ _)).X (fun HS => ?_)
          try simp only [Act.put, List.getElem_toArray, List.getElem_cons_succ, List.getElem_cons_zero, List.setIfInBounds_toArray, List.set_cons_zero, List.set_cons_succ]
          exact anyH_eq (by kernel_rfl) (S0_0.out (q0.heap.size, x1, x2, x3) _ ⟨HG.out.later (bel1 _ _), LB0.out _ HG.out⟩)
        · go_simp
          refine hK.out _ _ (HG.out.later (bel1 _ _)).X (fun HS => ?_)
          try simp only [Act.put, List.getElem_toArray, List.getElem_cons_succ, List.getElem_cons_zero, List.setIfInBounds_toArray, List.set_cons_zero, List.set_cons_succ]
          exact anyH_eq (by kernel_rfl) (S1_0.out (x0, q0.heap.size, x2, x3) _ ⟨HG.out.later (bel1 _ _), LB1.out _ HG.out⟩)
        · go_simp
          refine hK.out _ _ (HG.out.later (bel1 _ _)).X (fun HS => ?_)
          try simp only [Act.put, List.getElem_toArray, List.getElem_cons_succ, List.getElem_cons_zero, List.setIfInBounds_toArray, List.set_cons_zero, List.set_cons_succ]
          exact anyH_eq (by kernel_rfl) (S2_0.out (x0, x1, q0.heap.size, x3) _ ⟨HG.out.later (bel1 _ _), LB2.out _ HG.out⟩)
        · go_simp
          refine hK.out _ _ (HG.out.later (bel1 _ _)).X (fun HS => ?_)
          try simp only [Act.put, List.getElem_toArray, List.getElem_cons_succ, List.getElem_cons_zero, List.setIfInBounds_toArray, List.set_cons_zero, List.set_cons_succ]
          exact anyH_eq (by kernel_rfl) (S3_0.out (x0, x1, x2, q0.heap.size) _ ⟨HG.out.later (bel1 _ _), LB3.out _ HG.out⟩)
      refine wpAnyH_take (i := 0) (v := ?_) rfl (by kernel_rfl) (by kernel_rfl) (by kernel_rfl) (fun _ _ _ h => h) (Or.inl ⟨by kernel_rfl, ?_⟩) HS ?_
      rotate_left
      · (rintro w ⟨y0, y1, y2⟩; go_simp) <;> with_reducible rfl
      try simp only [Act.put, List.getElem_toArray, List.getElem_cons_succ, List.getElem_cons_zero, List.setIfInBounds_toArray, List.set_cons_zero, List.set_cons_succ]
      refine wpAnyH_take (i := 3) (v := ?_) rfl (by kernel_rfl) (by kernel_rfl) (by kernel_rfl) (fun _ _ _ h => h) (Or.inl ⟨by kernel_rfl, ?_⟩) HS ?_
      rotate_left
      · (rintro w ⟨y0, y1, y2⟩; go_simp) <;> with_reducible rfl
      try simp only [Act.put, List.getElem_toArray, List.getElem_cons_succ, List.getElem_cons_zero, List.setIfInBounds_toArray, List.set_cons_zero, List.set_cons_succ]
      refine wpAnyH_take (i := 4) (v := ?_) rfl (by kernel_rfl) (by kernel_rfl) (by kernel_rfl) (fun _ _ _ h => h) (Or.inl ⟨by kernel_rfl, ?_⟩) HS ?_
      rotate_left
      · (rintro w ⟨y0, y1, y2⟩; go_simp) <;> with_reducible rfl
      try simp only [Act.put, List.getElem_toArray, List.getElem_cons_succ, List.getElem_cons_zero, List.setIfInBounds_toArray, List.set_cons_zero, List.set_cons_succ]
      refine wpAnyH_take (i := 7) (v := ?_) rfl (by kernel_rfl) (by kernel_rfl) (by kernel_rfl) (fun _ _ _ h => h) (Or.inl ⟨by kernel_rfl, ?_⟩) HS ?_
      rotate_left
      · (rintro w ⟨y0, y1, y2⟩; go_simp) <;> with_reducible rfl
      try simp only [Act.put, List.getElem_toArray, List.getElem_cons_succ, List.getElem_cons_zero, List.setIfInBounds_toArray, List.set_cons_zero, List.set_cons_succ]
      refine wpAnyH_take (i := 8) (v := ?_) rfl (by kernel_rfl) (by kernel_rfl) (by kernel_rfl) (fun _ _ _ h => h) (Or.inl ⟨by kernel_rfl, ?_⟩) HS ?_
      rotate_left
      · (rintro w ⟨y0, y1, y2⟩; go_simp) <;> with_reducible rfl
      try simp only [Act.put, List.getElem_toArray, List.getElem_cons_succ, List.getElem_cons_zero, List.setIfInBounds_toArray, List.set_cons_zero, List.set_cons_succ]
      refine wpAnyH_take (i := 12) (v := ?_) rfl (by kernel_rfl) (by kernel_rfl) (by kernel_rfl) (fun _ _ _ h => h) (Or.inl ⟨by kernel_rfl, ?_⟩) HS ?_
      rotate_left
      · (rintro w ⟨y0, y1, y2⟩; go_simp) <;> with_reducible rfl
      try simp only [Act.put, List.getElem_toArray, List.getElem_cons_succ, List.getElem_cons_zero, List.setIfInBounds_toArray, List.set_cons_zero, List.set_cons_succ]
      refine wpAnyH_take (i := 13) (v := ?_) rfl (by kernel_rfl) (by kernel_rfl) (by kernel_rfl) (fun _ _ _ h => h) (Or.inl ⟨by kernel_rfl, ?_⟩) HS ?_
      rotate_left
      · (rintro w ⟨y0, y1, y2⟩; go_simp) <;> with_reducible rfl
      try simp only [Act.put, List.getElem_toArray, List.getElem_cons_succ, List.getElem_cons_zero, List.setIfInBounds_toArray, List.set_cons_zero, List.set_cons_succ]
      exact anyH_eq (by kernel_rfl) (S_0.out (0, 0, 0, 0) _ HG0.out)
end Go.Proofs.YtghbmokhilfjcaaDoor
