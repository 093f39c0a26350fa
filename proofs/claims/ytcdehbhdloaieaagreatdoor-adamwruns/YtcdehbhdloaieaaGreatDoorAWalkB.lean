/-
  The contracts of adamw's mixed and move, with a unit or with none.
-/
import Derived.Test.YtcdehbhdloaieaaGreatDoorAUnit
import Derived.Test.YtcdehbhdloaieaaGreatDoorAMath
import Derived.Test.YtcdehbhdloaieaaGreatDoorAY3
import Derived.Deep.RegionHeld3
set_option linter.unusedVariables false
set_option linter.unusedSimpArgs false
namespace Go.Proofs.YtcdehbhdloaieaaGreatDoor
open Go.RowKit

theorem rr32_9 (v : Int) : rr v 32 = rnd v 32 := by unfold rr; rw [if_neg (by omega)]
theorem B2.ux {b : Nat} {x y : Value} {w w' : World} {p : Option Addr} {c : Int} (h : B2 b x y w) (hn : Nu b p) (hU : Ux p c w w') : B2 b x y w' := ⟨hU.cell hn h.c0, hU.cell hn h.c1, hU.frozen hn h.c0 h.f0, hU.frozen hn h.c1 h.f1⟩
theorem Y3.ux {b : Nat} {x y z : Value} {w w' : World} {p : Option Addr} {c : Int} (h : Y3 b x y z w) (hn : Nu b p) (hU : Ux p c w w') : Y3 b x y z w' := h.blk (hU.blk h.lt hn)
set_option maxRecDepth 100000 in
set_option maxHeartbeats 4000000 in
theorem mixed_of (p : Option Addr) (c k b old now n1 h1 l1 h2 l2 h3 l3 t m l X : Int) (w : World)
    (ww : IntKind.i64.wrap (4294967296 - b) = n1)
    (C1 : Hid (∀ W : World, Calls Tryz.prog 74 #[.int .i64 b, .int .i64 old] W fun e w' => e = .returned (.agg #[.int .i64 h1, .int .u64 l1]) ∧ Below W.heap.size W w'))
    (C2 : Hid (∀ W : World, Calls Tryz.prog 74 #[.int .i64 n1, .int .i64 now] W fun e w' => e = .returned (.agg #[.int .i64 h2, .int .u64 l2]) ∧ Below W.heap.size W w'))
    (CA : Hid (∀ W : World, Calls Tryz.prog 77 #[.agg #[.int .i64 h1, .int .u64 l1], .agg #[.int .i64 h2, .int .u64 l2]] W fun e w' => e = .returned (.agg #[.int .i64 h3, .int .u64 l3]) ∧ Below W.heap.size W w'))
    (CE : Hid (∀ W : World, Calls Tryz.prog 76 #[.agg #[.int .i64 h3, .int .u64 l3]] W fun e w' => e = .returned (.agg #[.int .i64 t, .int .u64 m, .int .u64 l]) ∧ Below W.heap.size W w'))
    (CN : Hid (∀ W : World, Below w.heap.size w W → Calls Tryz.prog 75 #[.pointer p, .agg #[.int .i64 t, .int .u64 m, .int .u64 l], .int .i64 32] W fun e w' => e = .returned (.int .i64 X) ∧ Ux p (c + k) W w'))
    (hp : Up p c w) :
    Calls Tryz.prog 44 #[.pointer p, .int .i64 b, .int .i64 old, .int .i64 now] w fun e w' => e = .returned (.int .i64 X) ∧ Ux p (c + k) w w' := by
  have HP : Hid (Up p c w) := hp
  clear hp
  go_enter Tryz.func44, Tryz.ntmps44
  go_wp2_with fail
  refine (C1.out _).mono ?_
  rintro e w1 ⟨rfl, hb⟩
  obtain ⟨w2, hw2⟩ : ∃ w2, w2 = w1.alloc (.cells #[.int .i64 h1, .int .u64 l1] 131) := ⟨_, rfl⟩
  have HB2 : Hid (Below w.heap.size w w2) := by rw [hw2]; exact bchain hb (bel1 _ _)
  have HX : B2 w1.heap.size (.int .i64 h1) (.int .u64 l1) w2 := by rw [hw2]; exact B2.new _ _ _ _
  clear hb C1
  go_upto_region 2 with fail
  rw [← hw2]
  clear hw2
  generalize w1.heap.size = g1 at *
  go_wp2_with fail
  refine (C2.out _).mono ?_
  rintro e w3 ⟨rfl, hb⟩
  obtain ⟨w4, hw4⟩ : ∃ w4, w4 = w3.alloc (.cells #[.int .i64 h2, .int .u64 l2] 131) := ⟨_, rfl⟩
  have HB4 : Hid (Below w.heap.size w w4) := by rw [hw4]; exact bchain (bchain HB2.out hb) (bel1 _ _)
  replace HX : B2 g1 (.int .i64 h1) (.int .u64 l1) w4 := by rw [hw4]; exact (HX.later hb).later (bel1 _ _)
  have HY : B2 w3.heap.size (.int .i64 h2) (.int .u64 l2) w4 := by rw [hw4]; exact B2.new _ _ _ _
  clear hb C2 HB2
  go_upto_region 3 with fail
  rw [← hw4]
  clear hw4
  generalize w3.heap.size = g2 at *
  have x0 := HX.c0
  have x1 := HX.c1
  have y0 := HY.c0
  have y1 := HY.c1
  clear HX HY
  go_wp2_with fail
  refine (CA.out _).mono ?_
  rintro e w5 ⟨rfl, hb⟩
  have HB5 : Hid (Below w.heap.size w w5) := bchain HB4.out hb
  clear hb CA HB4 x0 x1 y0 y1
  go_wp2_with fail
  refine (CE.out _).mono ?_
  rintro e w6 ⟨rfl, hb⟩
  have HB6 : Hid (Below w.heap.size w w6) := bchain HB5.out hb
  clear hb CE HB5
  go_wp2_with fail
  refine (CN.out _ HB6.out).mono ?_
  rintro e w7 ⟨rfl, hU⟩
  have HU : Hid (Ux p (c + k) w w7) := (HP.out.ux HB6.out).chain hU
  clear hU CN
  go_wp2
  go_ret
  exact ⟨rfl, HU.out⟩
theorem mixed_ux (b old now : Int) (b0 : 0 ≤ b) (b1 : b < 4294967296) (o0 : -9223372036854775808 ≤ old) (o1 : old ≤ 9223372036854775807) (n0 : -9223372036854775808 ≤ now) (n1 : now ≤ 9223372036854775807) (p : Option Addr) (c : Int) (c0 : 0 ≤ c) (c1 : c ≤ 900000000) (w : World) (hT : TabAt w) (hp : Up p c w) :
    Calls Tryz.prog 44 #[.pointer p, .int .i64 b, .int .i64 old, .int .i64 now] w fun e w' => e = .returned (.int .i64 (clv (meV b old now))) ∧ Ux p (c + bi (ovv (meV b old now))) w w' := by
  have k0 := Int.mul_le_mul_of_nonneg_left o0 b0
  have k1 := Int.mul_le_mul_of_nonneg_left o1 b0
  have k2 := Int.mul_le_mul_of_nonneg_left n0 (show 0 ≤ 4294967296 - b by omega)
  have k3 := Int.mul_le_mul_of_nonneg_left n1 (show 0 ≤ 4294967296 - b by omega)
  have r0 : -3138550867693340381917894711603833208051177722232017256448 ≤ b * old + (4294967296 - b) * now := by omega
  have r1 : b * old + (4294967296 - b) * now ≤ 3138550867693340381917894711603833208051177722232017256447 := by omega
  refine mixed_of p c (bi (ovv (meV b old now))) b old now (4294967296 - b) _ _ _ _ _ _ _ _ _ _ w (by rw [IntKind.wrap_i64]; omega) (fun W => mul_any b old (by omega) (by omega) o0 o1 W) (fun W => mul_any (4294967296 - b) now (by omega) (by omega) n0 n1 W) (fun W => add_any (b * old) ((4294967296 - b) * now) W) (fun W => extend_any (b * old + (4294967296 - b) * now) (by omega) (by omega) W) (fun W hb => ?_) hp
  have h := near32_ux (b * old + (4294967296 - b) * now) r0 r1 p c c0 c1 W (hT.later hb) (hp.later hb)
  rw [rr32_9] at h
  exact h
/-- A call with a unit that may be none: its answer, and how much it counts. -/
def Cn1 (f : Nat) (p : Option Addr) (x r k : Int) : Prop := ∀ (W : World) (c : Int), 0 ≤ c → c ≤ 850000000 → TabAt W → Up p c W → Calls Tryz.prog f #[.pointer p, .int .i64 x] W fun e w' => e = .returned (.int .i64 r) ∧ Ux p (c + k) W w'
def Cn2 (f : Nat) (p : Option Addr) (x y r k : Int) : Prop := ∀ (W : World) (c : Int), 0 ≤ c → c ≤ 850000000 → TabAt W → Up p c W → Calls Tryz.prog f #[.pointer p, .int .i64 x, .int .i64 y] W fun e w' => e = .returned (.int .i64 r) ∧ Ux p (c + k) W w'
def Cn3 (f : Nat) (p : Option Addr) (x y z r k : Int) : Prop := ∀ (W : World) (c : Int), 0 ≤ c → c ≤ 850000000 → TabAt W → Up p c W → Calls Tryz.prog f #[.pointer p, .int .i64 x, .int .i64 y, .int .i64 z] W fun e w' => e = .returned (.int .i64 r) ∧ Ux p (c + k) W w'
/-- What move reads: its step and where the parameter is. -/
structure K9 (bs bf : Nat) (b1 b2 ep dc r o1 o2 m v q : Int) (w : World) : Prop where
  s3 : w.cell? ⟨bs, 3, none⟩ = some (.int .i64 b1)
  s4 : w.cell? ⟨bs, 4, none⟩ = some (.int .i64 b2)
  s5 : w.cell? ⟨bs, 5, none⟩ = some (.int .i64 ep)
  s6 : w.cell? ⟨bs, 6, none⟩ = some (.int .i64 dc)
  s9 : w.cell? ⟨bs, 9, none⟩ = some (.int .i64 r)
  s10 : w.cell? ⟨bs, 10, none⟩ = some (.int .i64 o1)
  s11 : w.cell? ⟨bs, 11, none⟩ = some (.int .i64 o2)
  p0 : w.cell? ⟨bf, 0, none⟩ = some (.int .i64 m)
  p1 : w.cell? ⟨bf, 1, none⟩ = some (.int .i64 v)
  p2 : w.cell? ⟨bf, 2, none⟩ = some (.int .i64 q)
theorem K9.ux {bs bf : Nat} {b1 b2 ep dc r o1 o2 m v q : Int} {w w' : World} {p : Option Addr} {c : Int} (h : K9 bs bf b1 b2 ep dc r o1 o2 m v q w) (hs : Nu bs p) (hf : Nu bf p) (hU : Ux p c w w') : K9 bs bf b1 b2 ep dc r o1 o2 m v q w' :=
  ⟨hU.cell hs h.s3, hU.cell hs h.s4, hU.cell hs h.s5, hU.cell hs h.s6, hU.cell hs h.s9, hU.cell hs h.s10, hU.cell hs h.s11, hU.cell hf h.p0, hU.cell hf h.p1, hU.cell hf h.p2⟩
theorem K9.later {bs bf : Nat} {b1 b2 ep dc r o1 o2 m v q : Int} {w w' : World} (h : K9 bs bf b1 b2 ep dc r o1 o2 m v q w) (hb : Below w.heap.size w w') : K9 bs bf b1 b2 ep dc r o1 o2 m v q w' :=
  ⟨cell_later hb h.s3, cell_later hb h.s4, cell_later hb h.s5, cell_later hb h.s6, cell_later hb h.s9, cell_later hb h.s10, cell_later hb h.s11, cell_later hb h.p0, cell_later hb h.p1, cell_later hb h.p2⟩
theorem K9.far {bs bf : Nat} {b1 b2 ep dc r o1 o2 m v q : Int} {w : World} (h : K9 bs bf b1 b2 ep dc r o1 o2 m v q w) (a : Addr) (u : Value) (hs : a.block ≠ bs) (hf : a.block ≠ bf) : K9 bs bf b1 b2 ep dc r o1 o2 m v q (w.setCell a u) :=
  ⟨cell_set hs h.s3, cell_set hs h.s4, cell_set hs h.s5, cell_set hs h.s6, cell_set hs h.s9, cell_set hs h.s10, cell_set hs h.s11, cell_set hf h.p0, cell_set hf h.p1, cell_set hf h.p2⟩
set_option maxRecDepth 100000 in
set_option maxHeartbeats 16000000 in
theorem move_of (p : Option Addr) (c B Wm b1 b2 ep dc cl tt r o1 o2 m v q g vm vq vv va vd vb ve vf vg vw vr vy k1 k2 k3 k4 k5 k6 k7 k8 k9 k10 k11 k12 : Int) (adD : Option Addr) (nD caD : Nat) (c0 : 0 ≤ c) (c1 : c ≤ 840000000)
    (r1 : 0 ≤ k1 ∧ k1 ≤ 1) (r2 : 0 ≤ k2 ∧ k2 ≤ 1) (r3 : 0 ≤ k3 ∧ k3 ≤ 1) (r4 : 0 ≤ k4 ∧ k4 ≤ 1) (r5 : 0 ≤ k5 ∧ k5 ≤ 1) (r6 : 0 ≤ k6 ∧ k6 ≤ 1) (r7 : 0 ≤ k7 ∧ k7 ≤ 1) (r8 : 0 ≤ k8 ∧ k8 ≤ 1) (r9 : 0 ≤ k9 ∧ k9 ≤ 1) (r10 : 0 ≤ k10 ∧ k10 ≤ 1) (r11 : 0 ≤ k11 ∧ k11 ≤ 1) (r12 : 0 ≤ k12 ∧ k12 ≤ 1)
    (C1 : Hid (Cn3 44 p b1 m g vm k1))
    (C2 : Hid (Cn2 45 p g g vq k2))
    (C3 : Hid (Cn3 44 p b2 v vq vv k3))
    (C4 : Hid (Cn2 43 p vm o1 va k4))
    (C5 : Hid (Cn2 43 p vv o2 vd k5))
    (C6 : Hid (Cn1 46 p vd vb k6))
    (C7 : Hid (Cn2 47 p vb ep ve k7))
    (C8 : Hid (Cn2 43 p va ve vf k8))
    (C9 : Hid (Cn2 45 p dc q vg k9))
    (C10 : Hid (Cn2 47 p vf vg vw k10))
    (C11 : Hid (Cn2 45 p r vw vr k11))
    (C12 : Hid (Cn2 48 p q vr vy k12))
    (w : World) (hT : TabAt w) (hp : Up p c w) :
    Calls Tryz.prog 22 #[.agg #[.int .i64 B, .int .i64 Wm, .slice adD nD caD, .int .i64 b1, .int .i64 b2, .int .i64 ep, .int .i64 dc, .int .i64 cl, .int .i64 tt, .int .i64 r, .int .i64 o1, .int .i64 o2], .pointer p, .agg #[.int .i64 m, .int .i64 v, .int .i64 q], .int .i64 g] w fun e w' => e = .returned (.agg #[.int .i64 vm, .int .i64 vv, .int .i64 vy]) ∧ Ux p (c + (k1 + k2 + k3 + k4 + k5 + k6 + k7 + k8 + k9 + k10 + k11 + k12)) w w' := by
  have ns : Nu w.heap.size p := hp.lt (Nat.le_refl _)
  have nf : Nu (w.heap.size + 1) p := hp.lt (by omega)
  have no : Nu (w.heap.size + 1 + 1) p := hp.lt (by omega)
  obtain ⟨w1, hw1⟩ : ∃ w1, w1 = ((w.alloc (.cells #[.int .i64 B, .int .i64 Wm, .slice adD nD caD, .int .i64 b1, .int .i64 b2, .int .i64 ep, .int .i64 dc, .int .i64 cl, .int .i64 tt, .int .i64 r, .int .i64 o1, .int .i64 o2] 69)).alloc (.cells #[.int .i64 m, .int .i64 v, .int .i64 q] 75)).alloc (.cells #[.int .i64 0, .int .i64 0, .int .i64 0] 75) := ⟨_, rfl⟩
  have hb1 : Below w.heap.size w w1 := by rw [hw1]; exact bchain (bel2 _ _ _) (bel1 _ _)
  have HK : Hid (K9 w.heap.size (w.heap.size + 1) b1 b2 ep dc r o1 o2 m v q w1) := by rw [hw1]; exact ⟨by simp [go_sem], by simp [go_sem], by simp [go_sem], by simp [go_sem], by simp [go_sem], by simp [go_sem], by simp [go_sem], by simp [go_sem], by simp [go_sem], by simp [go_sem]⟩
  have HY : Hid (Y3 (w.heap.size + 1 + 1) (.int .i64 0) (.int .i64 0) (.int .i64 0) w1) := by rw [hw1]; have h := Y3.new ((w.alloc (.cells #[.int .i64 B, .int .i64 Wm, .slice adD nD caD, .int .i64 b1, .int .i64 b2, .int .i64 ep, .int .i64 dc, .int .i64 cl, .int .i64 tt, .int .i64 r, .int .i64 o1, .int .i64 o2] 69)).alloc (.cells #[.int .i64 m, .int .i64 v, .int .i64 q] 75)) (.int .i64 0) (.int .i64 0) (.int .i64 0) 75; rw [World.size_alloc, World.size_alloc] at h; exact h
  have HU : Hid (Ux p c w w1) := hp.ux hb1
  have HT : Hid (TabAt w1) := hT.later hb1
  clear hT hp hb1
  go_enter Tryz.func22, Tryz.ntmps22
  go_upto_region 1 with fail
  rw [← hw1]
  clear hw1
  obtain ⟨gf, hgf⟩ : ∃ x, w.heap.size + 1 = x := ⟨_, rfl⟩
  obtain ⟨go', hgo⟩ : ∃ x, gf + 1 = x := ⟨_, rfl⟩
  simp only [hgf, hgo] at HK HY nf no ⊢
  have hso : w.heap.size ≤ go' := by omega
  have hos : go' ≠ w.heap.size := by omega
  have hof : go' ≠ gf := by omega
  clear hgf hgo
  have x_s3 := HK.out.s3
  have x_p0 := HK.out.p0
  go_wp2_with fail
  refine (C1.out _ c (by omega) (by omega) HT.out HU.out.up).mono ?_
  rintro e w2 ⟨rfl, hU⟩
  replace HT : Hid (TabAt w2) := HT.out.ux HU.out.up hU
  replace HU : Hid (Ux p (c + k1) w w2) := HU.out.chain hU
  replace HK : Hid (K9 w.heap.size gf b1 b2 ep dc r o1 o2 m v q w2) := HK.out.ux ns nf hU
  replace HY : Hid (Y3 go' (.int .i64 0) (.int .i64 0) (.int .i64 0) w2) := HY.out.ux no hU
  clear hU C1 x_s3 x_p0
  go_upto_region 2 with fail
  have hbD : Below w2.heap.size w2 w2.drew := (Below.refl _ _).drew
  replace HT : Hid (TabAt w2.drew) := HT.out.later hbD
  replace HU : Hid (Ux p (c + k1) w w2.drew) := HU.out.later hbD
  replace HY : Hid (Y3 go' (.int .i64 0) (.int .i64 0) (.int .i64 0) w2.drew) := HY.out.later hbD
  have HK' : K9 w.heap.size gf b1 b2 ep dc r o1 o2 m v q w2.drew := HK.out.later hbD
  refine wp_region_held_drew (S := fun W' => K9 w.heap.size gf b1 b2 ep dc r o1 o2 m v q W') (by kernel_rfl) HK' (fun HS => ?_)
  clear hbD HK' HK
  generalize w2.drew = w2d at *
  refine wpAnyH_take (i := 0) (v := ?_) rfl (by kernel_rfl) (by kernel_rfl) (by kernel_rfl) (fun _ _ _ h => h) (Or.inl ⟨by kernel_rfl, ?_⟩) HS ?_
  rotate_left
  · (rintro w ⟨s3, s4, s5, s6, s9, s10, s11, p0, p1, p2⟩; go_simp) <;> with_reducible rfl
  try simp only [Act.put, List.getElem_toArray, List.getElem_cons_succ, List.getElem_cons_zero, List.setIfInBounds_toArray, List.set_cons_zero, List.set_cons_succ]
  refine wpAnyH_take (i := 1) (v := ?_) rfl (by kernel_rfl) (by kernel_rfl) (by kernel_rfl) (fun _ _ _ h => h) (Or.inl ⟨by kernel_rfl, ?_⟩) HS ?_
  rotate_left
  · (rintro w ⟨s3, s4, s5, s6, s9, s10, s11, p0, p1, p2⟩; go_simp) <;> with_reducible rfl
  try simp only [Act.put, List.getElem_toArray, List.getElem_cons_succ, List.getElem_cons_zero, List.setIfInBounds_toArray, List.set_cons_zero, List.set_cons_succ]
  refine wpAnyH_take (i := 2) (v := ?_) rfl (by kernel_rfl) (by kernel_rfl) (by kernel_rfl) (fun _ _ _ h => h) (Or.inl ⟨by kernel_rfl, ?_⟩) HS ?_
  rotate_left
  · (rintro w ⟨s3, s4, s5, s6, s9, s10, s11, p0, p1, p2⟩; go_simp) <;> with_reducible rfl
  try simp only [Act.put, List.getElem_toArray, List.getElem_cons_succ, List.getElem_cons_zero, List.setIfInBounds_toArray, List.set_cons_zero, List.set_cons_succ]
  refine wpAnyH_take (i := 3) (v := ?_) rfl (by kernel_rfl) (by kernel_rfl) (by kernel_rfl) (fun _ _ _ h => h) (Or.inl ⟨by kernel_rfl, ?_⟩) HS ?_
  rotate_left
  · (rintro w ⟨s3, s4, s5, s6, s9, s10, s11, p0, p1, p2⟩; go_simp) <;> with_reducible rfl
  try simp only [Act.put, List.getElem_toArray, List.getElem_cons_succ, List.getElem_cons_zero, List.setIfInBounds_toArray, List.set_cons_zero, List.set_cons_succ]
  refine wpAnyH_take (i := 4) (v := ?_) rfl (by kernel_rfl) (by kernel_rfl) (by kernel_rfl) (fun _ _ _ h => h) (Or.inl ⟨by kernel_rfl, ?_⟩) HS ?_
  rotate_left
  · (rintro w ⟨s3, s4, s5, s6, s9, s10, s11, p0, p1, p2⟩; go_simp) <;> with_reducible rfl
  try simp only [Act.put, List.getElem_toArray, List.getElem_cons_succ, List.getElem_cons_zero, List.setIfInBounds_toArray, List.set_cons_zero, List.set_cons_succ]
  refine wpAnyH_take (i := 5) (v := ?_) rfl (by kernel_rfl) (by kernel_rfl) (by kernel_rfl) (fun _ _ _ h => h) (Or.inl ⟨by kernel_rfl, ?_⟩) HS ?_
  rotate_left
  · (rintro w ⟨s3, s4, s5, s6, s9, s10, s11, p0, p1, p2⟩; go_simp) <;> with_reducible rfl
  try simp only [Act.put, List.getElem_toArray, List.getElem_cons_succ, List.getElem_cons_zero, List.setIfInBounds_toArray, List.set_cons_zero, List.set_cons_succ]
  refine wpAnyH_take (i := 6) (v := ?_) rfl (by kernel_rfl) (by kernel_rfl) (by kernel_rfl) (fun _ _ _ h => h) (Or.inl ⟨by kernel_rfl, ?_⟩) HS ?_
  rotate_left
  · (rintro w ⟨s3, s4, s5, s6, s9, s10, s11, p0, p1, p2⟩; go_simp) <;> with_reducible rfl
  try simp only [Act.put, List.getElem_toArray, List.getElem_cons_succ, List.getElem_cons_zero, List.setIfInBounds_toArray, List.set_cons_zero, List.set_cons_succ]
  refine wpAnyH_take (i := 7) (v := ?_) rfl (by kernel_rfl) (by kernel_rfl) (by kernel_rfl) (fun _ _ _ h => h) (Or.inl ⟨by kernel_rfl, ?_⟩) HS ?_
  rotate_left
  · (rintro w ⟨s3, s4, s5, s6, s9, s10, s11, p0, p1, p2⟩; go_simp) <;> with_reducible rfl
  try simp only [Act.put, List.getElem_toArray, List.getElem_cons_succ, List.getElem_cons_zero, List.setIfInBounds_toArray, List.set_cons_zero, List.set_cons_succ]
  refine wpAnyH_take (i := 8) (v := ?_) rfl (by kernel_rfl) (by kernel_rfl) (by kernel_rfl) (fun _ _ _ h => h) (Or.inl ⟨by kernel_rfl, ?_⟩) HS ?_
  rotate_left
  · (rintro w ⟨s3, s4, s5, s6, s9, s10, s11, p0, p1, p2⟩; go_simp) <;> with_reducible rfl
  try simp only [Act.put, List.getElem_toArray, List.getElem_cons_succ, List.getElem_cons_zero, List.setIfInBounds_toArray, List.set_cons_zero, List.set_cons_succ]
  refine wpAnyH_ready (rs := [9]) (by kernel_rfl) (by simp) ?_
  refine AllReadyH.cons rfl (fun K hK => ?_) AllReadyH.nil
  go_simp
  refine (C2.out _ (c + k1) (by omega) (by omega) HT.out HU.out.up).mono ?_
  rintro e w3 ⟨rfl, hU⟩
  refine hK.out _ _ (HS.ux ns nf hU) (fun HS => ?_)
  clear hK K
  replace HT : Hid (TabAt w3) := HT.out.ux HU.out.up hU
  replace HU : Hid (Ux p ((c + k1) + k2) w w3) := HU.out.chain hU
  replace HY : Hid (Y3 go' (.int .i64 0) (.int .i64 0) (.int .i64 0) w3) := HY.out.ux no hU
  clear hU C2
  refine wpAnyH_ready (rs := [10]) (by kernel_rfl) (by simp) ?_
  refine AllReadyH.cons rfl (fun K hK => ?_) AllReadyH.nil
  go_simp
  refine (C3.out _ ((c + k1) + k2) (by omega) (by omega) HT.out HU.out.up).mono ?_
  rintro e w4 ⟨rfl, hU⟩
  refine hK.out _ _ (HS.ux ns nf hU) (fun HS => ?_)
  clear hK K
  replace HT : Hid (TabAt w4) := HT.out.ux HU.out.up hU
  replace HU : Hid (Ux p (((c + k1) + k2) + k3) w w4) := HU.out.chain hU
  replace HY : Hid (Y3 go' (.int .i64 0) (.int .i64 0) (.int .i64 0) w4) := HY.out.ux no hU
  clear hU C3
  refine wpAnyH_take (i := 11) (v := ?_) rfl (by kernel_rfl) (by kernel_rfl) (by kernel_rfl) (fun _ _ _ h => h) (Or.inl ⟨by kernel_rfl, ?_⟩) HS ?_
  rotate_left
  · (rintro w ⟨s3, s4, s5, s6, s9, s10, s11, p0, p1, p2⟩; go_simp) <;> with_reducible rfl
  try simp only [Act.put, List.getElem_toArray, List.getElem_cons_succ, List.getElem_cons_zero, List.setIfInBounds_toArray, List.set_cons_zero, List.set_cons_succ]
  refine wpAnyH_done (by kernel_rfl) ?_ _
  have HK : Hid (K9 w.heap.size gf b1 b2 ep dc r o1 o2 m v q w4) := HS
  clear HS
  have x_s10 := HK.out.s10
  go_wp2_with fail
  refine (C4.out _ (((c + k1) + k2) + k3) (by omega) (by omega) HT.out HU.out.up).mono ?_
  rintro e w5 ⟨rfl, hU⟩
  replace HT : Hid (TabAt w5) := HT.out.ux HU.out.up hU
  replace HU : Hid (Ux p ((((c + k1) + k2) + k3) + k4) w w5) := HU.out.chain hU
  replace HK : Hid (K9 w.heap.size gf b1 b2 ep dc r o1 o2 m v q w5) := HK.out.ux ns nf hU
  replace HY : Hid (Y3 go' (.int .i64 0) (.int .i64 0) (.int .i64 0) w5) := HY.out.ux no hU
  clear hU C4 x_s10
  have x_s11 := HK.out.s11
  go_wp2_with fail
  refine (C5.out _ ((((c + k1) + k2) + k3) + k4) (by omega) (by omega) HT.out HU.out.up).mono ?_
  rintro e w6 ⟨rfl, hU⟩
  replace HT : Hid (TabAt w6) := HT.out.ux HU.out.up hU
  replace HU : Hid (Ux p (((((c + k1) + k2) + k3) + k4) + k5) w w6) := HU.out.chain hU
  replace HK : Hid (K9 w.heap.size gf b1 b2 ep dc r o1 o2 m v q w6) := HK.out.ux ns nf hU
  replace HY : Hid (Y3 go' (.int .i64 0) (.int .i64 0) (.int .i64 0) w6) := HY.out.ux no hU
  clear hU C5 x_s11
  go_wp2_with fail
  refine (C6.out _ (((((c + k1) + k2) + k3) + k4) + k5) (by omega) (by omega) HT.out HU.out.up).mono ?_
  rintro e w7 ⟨rfl, hU⟩
  replace HT : Hid (TabAt w7) := HT.out.ux HU.out.up hU
  replace HU : Hid (Ux p ((((((c + k1) + k2) + k3) + k4) + k5) + k6) w w7) := HU.out.chain hU
  replace HK : Hid (K9 w.heap.size gf b1 b2 ep dc r o1 o2 m v q w7) := HK.out.ux ns nf hU
  replace HY : Hid (Y3 go' (.int .i64 0) (.int .i64 0) (.int .i64 0) w7) := HY.out.ux no hU
  clear hU C6 
  go_upto_region 5 with fail
  have hbD : Below w7.heap.size w7 w7.drew := (Below.refl _ _).drew
  replace HT : Hid (TabAt w7.drew) := HT.out.later hbD
  replace HU : Hid (Ux p ((((((c + k1) + k2) + k3) + k4) + k5) + k6) w w7.drew) := HU.out.later hbD
  replace HY : Hid (Y3 go' (.int .i64 0) (.int .i64 0) (.int .i64 0) w7.drew) := HY.out.later hbD
  have HK' : K9 w.heap.size gf b1 b2 ep dc r o1 o2 m v q w7.drew := HK.out.later hbD
  refine wp_region_held_drew (S := fun W' => K9 w.heap.size gf b1 b2 ep dc r o1 o2 m v q W') (by kernel_rfl) HK' (fun HS => ?_)
  clear hbD HK' HK
  generalize w7.drew = w7d at *
  refine wpAnyH_take (i := 0) (v := ?_) rfl (by kernel_rfl) (by kernel_rfl) (by kernel_rfl) (fun _ _ _ h => h) (Or.inl ⟨by kernel_rfl, ?_⟩) HS ?_
  rotate_left
  · (rintro w ⟨s3, s4, s5, s6, s9, s10, s11, p0, p1, p2⟩; go_simp) <;> with_reducible rfl
  try simp only [Act.put, List.getElem_toArray, List.getElem_cons_succ, List.getElem_cons_zero, List.setIfInBounds_toArray, List.set_cons_zero, List.set_cons_succ]
  refine wpAnyH_take (i := 1) (v := ?_) rfl (by kernel_rfl) (by kernel_rfl) (by kernel_rfl) (fun _ _ _ h => h) (Or.inl ⟨by kernel_rfl, ?_⟩) HS ?_
  rotate_left
  · (rintro w ⟨s3, s4, s5, s6, s9, s10, s11, p0, p1, p2⟩; go_simp) <;> with_reducible rfl
  try simp only [Act.put, List.getElem_toArray, List.getElem_cons_succ, List.getElem_cons_zero, List.setIfInBounds_toArray, List.set_cons_zero, List.set_cons_succ]
  refine wpAnyH_take (i := 2) (v := ?_) rfl (by kernel_rfl) (by kernel_rfl) (by kernel_rfl) (fun _ _ _ h => h) (Or.inl ⟨by kernel_rfl, ?_⟩) HS ?_
  rotate_left
  · (rintro w ⟨s3, s4, s5, s6, s9, s10, s11, p0, p1, p2⟩; go_simp) <;> with_reducible rfl
  try simp only [Act.put, List.getElem_toArray, List.getElem_cons_succ, List.getElem_cons_zero, List.setIfInBounds_toArray, List.set_cons_zero, List.set_cons_succ]
  refine wpAnyH_take (i := 3) (v := ?_) rfl (by kernel_rfl) (by kernel_rfl) (by kernel_rfl) (fun _ _ _ h => h) (Or.inl ⟨by kernel_rfl, ?_⟩) HS ?_
  rotate_left
  · (rintro w ⟨s3, s4, s5, s6, s9, s10, s11, p0, p1, p2⟩; go_simp) <;> with_reducible rfl
  try simp only [Act.put, List.getElem_toArray, List.getElem_cons_succ, List.getElem_cons_zero, List.setIfInBounds_toArray, List.set_cons_zero, List.set_cons_succ]
  refine wpAnyH_take (i := 4) (v := ?_) rfl (by kernel_rfl) (by kernel_rfl) (by kernel_rfl) (fun _ _ _ h => h) (Or.inl ⟨by kernel_rfl, ?_⟩) HS ?_
  rotate_left
  · (rintro w ⟨s3, s4, s5, s6, s9, s10, s11, p0, p1, p2⟩; go_simp) <;> with_reducible rfl
  try simp only [Act.put, List.getElem_toArray, List.getElem_cons_succ, List.getElem_cons_zero, List.setIfInBounds_toArray, List.set_cons_zero, List.set_cons_succ]
  refine wpAnyH_take (i := 5) (v := ?_) rfl (by kernel_rfl) (by kernel_rfl) (by kernel_rfl) (fun _ _ _ h => h) (Or.inl ⟨by kernel_rfl, ?_⟩) HS ?_
  rotate_left
  · (rintro w ⟨s3, s4, s5, s6, s9, s10, s11, p0, p1, p2⟩; go_simp) <;> with_reducible rfl
  try simp only [Act.put, List.getElem_toArray, List.getElem_cons_succ, List.getElem_cons_zero, List.setIfInBounds_toArray, List.set_cons_zero, List.set_cons_succ]
  refine wpAnyH_take (i := 6) (v := ?_) rfl (by kernel_rfl) (by kernel_rfl) (by kernel_rfl) (fun _ _ _ h => h) (Or.inl ⟨by kernel_rfl, ?_⟩) HS ?_
  rotate_left
  · (rintro w ⟨s3, s4, s5, s6, s9, s10, s11, p0, p1, p2⟩; go_simp) <;> with_reducible rfl
  try simp only [Act.put, List.getElem_toArray, List.getElem_cons_succ, List.getElem_cons_zero, List.setIfInBounds_toArray, List.set_cons_zero, List.set_cons_succ]
  refine wpAnyH_take (i := 7) (v := ?_) rfl (by kernel_rfl) (by kernel_rfl) (by kernel_rfl) (fun _ _ _ h => h) (Or.inl ⟨by kernel_rfl, ?_⟩) HS ?_
  rotate_left
  · (rintro w ⟨s3, s4, s5, s6, s9, s10, s11, p0, p1, p2⟩; go_simp) <;> with_reducible rfl
  try simp only [Act.put, List.getElem_toArray, List.getElem_cons_succ, List.getElem_cons_zero, List.setIfInBounds_toArray, List.set_cons_zero, List.set_cons_succ]
  refine wpAnyH_take (i := 10) (v := ?_) rfl (by kernel_rfl) (by kernel_rfl) (by kernel_rfl) (fun _ _ _ h => h) (Or.inl ⟨by kernel_rfl, ?_⟩) HS ?_
  rotate_left
  · (rintro w ⟨s3, s4, s5, s6, s9, s10, s11, p0, p1, p2⟩; go_simp) <;> with_reducible rfl
  try simp only [Act.put, List.getElem_toArray, List.getElem_cons_succ, List.getElem_cons_zero, List.setIfInBounds_toArray, List.set_cons_zero, List.set_cons_succ]
  refine wpAnyH_take (i := 11) (v := ?_) rfl (by kernel_rfl) (by kernel_rfl) (by kernel_rfl) (fun _ _ _ h => h) (Or.inl ⟨by kernel_rfl, ?_⟩) HS ?_
  rotate_left
  · (rintro w ⟨s3, s4, s5, s6, s9, s10, s11, p0, p1, p2⟩; go_simp) <;> with_reducible rfl
  try simp only [Act.put, List.getElem_toArray, List.getElem_cons_succ, List.getElem_cons_zero, List.setIfInBounds_toArray, List.set_cons_zero, List.set_cons_succ]
  refine wpAnyH_take (i := 12) (v := ?_) rfl (by kernel_rfl) (by kernel_rfl) (by kernel_rfl) (fun _ _ _ h => h) (Or.inl ⟨by kernel_rfl, ?_⟩) HS ?_
  rotate_left
  · (rintro w ⟨s3, s4, s5, s6, s9, s10, s11, p0, p1, p2⟩; go_simp) <;> with_reducible rfl
  try simp only [Act.put, List.getElem_toArray, List.getElem_cons_succ, List.getElem_cons_zero, List.setIfInBounds_toArray, List.set_cons_zero, List.set_cons_succ]
  refine wpAnyH_take (i := 13) (v := ?_) rfl (by kernel_rfl) (by kernel_rfl) (by kernel_rfl) (fun _ _ _ h => h) (Or.inl ⟨by kernel_rfl, ?_⟩) HS ?_
  rotate_left
  · (rintro w ⟨s3, s4, s5, s6, s9, s10, s11, p0, p1, p2⟩; go_simp) <;> with_reducible rfl
  try simp only [Act.put, List.getElem_toArray, List.getElem_cons_succ, List.getElem_cons_zero, List.setIfInBounds_toArray, List.set_cons_zero, List.set_cons_succ]
  refine wpAnyH_take (i := 14) (v := ?_) rfl (by kernel_rfl) (by kernel_rfl) (by kernel_rfl) (fun _ _ _ h => h) (Or.inl ⟨by kernel_rfl, ?_⟩) HS ?_
  rotate_left
  · (rintro w ⟨s3, s4, s5, s6, s9, s10, s11, p0, p1, p2⟩; go_simp) <;> with_reducible rfl
  try simp only [Act.put, List.getElem_toArray, List.getElem_cons_succ, List.getElem_cons_zero, List.setIfInBounds_toArray, List.set_cons_zero, List.set_cons_succ]
  refine wpAnyH_take (i := 15) (v := ?_) rfl (by kernel_rfl) (by kernel_rfl) (by kernel_rfl) (fun _ _ _ h => h) (Or.inl ⟨by kernel_rfl, ?_⟩) HS ?_
  rotate_left
  · (rintro w ⟨s3, s4, s5, s6, s9, s10, s11, p0, p1, p2⟩; go_simp) <;> with_reducible rfl
  try simp only [Act.put, List.getElem_toArray, List.getElem_cons_succ, List.getElem_cons_zero, List.setIfInBounds_toArray, List.set_cons_zero, List.set_cons_succ]
  refine wpAnyH_ready (rs := [8]) (by kernel_rfl) (by simp) ?_
  refine AllReadyH.cons rfl (fun K hK => ?_) AllReadyH.nil
  go_simp
  refine (C7.out _ ((((((c + k1) + k2) + k3) + k4) + k5) + k6) (by omega) (by omega) HT.out HU.out.up).mono ?_
  rintro e w8 ⟨rfl, hU⟩
  refine hK.out _ _ (HS.ux ns nf hU) (fun HS => ?_)
  clear hK K
  replace HT : Hid (TabAt w8) := HT.out.ux HU.out.up hU
  replace HU : Hid (Ux p (((((((c + k1) + k2) + k3) + k4) + k5) + k6) + k7) w w8) := HU.out.chain hU
  replace HY : Hid (Y3 go' (.int .i64 0) (.int .i64 0) (.int .i64 0) w8) := HY.out.ux no hU
  clear hU C7
  refine wpAnyH_ready (rs := [9]) (by kernel_rfl) (by simp) ?_
  refine AllReadyH.cons rfl (fun K hK => ?_) AllReadyH.nil
  go_simp
  refine (C8.out _ (((((((c + k1) + k2) + k3) + k4) + k5) + k6) + k7) (by omega) (by omega) HT.out HU.out.up).mono ?_
  rintro e w9 ⟨rfl, hU⟩
  refine hK.out _ _ (HS.ux ns nf hU) (fun HS => ?_)
  clear hK K
  replace HT : Hid (TabAt w9) := HT.out.ux HU.out.up hU
  replace HU : Hid (Ux p ((((((((c + k1) + k2) + k3) + k4) + k5) + k6) + k7) + k8) w w9) := HU.out.chain hU
  replace HY : Hid (Y3 go' (.int .i64 0) (.int .i64 0) (.int .i64 0) w9) := HY.out.ux no hU
  clear hU C8
  refine wpAnyH_ready (rs := [16]) (by kernel_rfl) (by simp) ?_
  refine AllReadyH.cons rfl (fun K hK => ?_) AllReadyH.nil
  go_simp
  refine (C9.out _ ((((((((c + k1) + k2) + k3) + k4) + k5) + k6) + k7) + k8) (by omega) (by omega) HT.out HU.out.up).mono ?_
  rintro e w10 ⟨rfl, hU⟩
  refine hK.out _ _ (HS.ux ns nf hU) (fun HS => ?_)
  clear hK K
  replace HT : Hid (TabAt w10) := HT.out.ux HU.out.up hU
  replace HU : Hid (Ux p (((((((((c + k1) + k2) + k3) + k4) + k5) + k6) + k7) + k8) + k9) w w10) := HU.out.chain hU
  replace HY : Hid (Y3 go' (.int .i64 0) (.int .i64 0) (.int .i64 0) w10) := HY.out.ux no hU
  clear hU C9
  refine wpAnyH_ready (rs := [17]) (by kernel_rfl) (by simp) ?_
  refine AllReadyH.cons rfl (fun K hK => ?_) AllReadyH.nil
  go_simp
  refine (C10.out _ (((((((((c + k1) + k2) + k3) + k4) + k5) + k6) + k7) + k8) + k9) (by omega) (by omega) HT.out HU.out.up).mono ?_
  rintro e w11 ⟨rfl, hU⟩
  refine hK.out _ _ (HS.ux ns nf hU) (fun HS => ?_)
  clear hK K
  replace HT : Hid (TabAt w11) := HT.out.ux HU.out.up hU
  replace HU : Hid (Ux p ((((((((((c + k1) + k2) + k3) + k4) + k5) + k6) + k7) + k8) + k9) + k10) w w11) := HU.out.chain hU
  replace HY : Hid (Y3 go' (.int .i64 0) (.int .i64 0) (.int .i64 0) w11) := HY.out.ux no hU
  clear hU C10
  refine wpAnyH_take (i := 18) (v := ?_) rfl (by kernel_rfl) (by kernel_rfl) (by kernel_rfl) (fun _ _ _ h => h) (Or.inl ⟨by kernel_rfl, ?_⟩) HS ?_
  rotate_left
  · (rintro w ⟨s3, s4, s5, s6, s9, s10, s11, p0, p1, p2⟩; go_simp) <;> with_reducible rfl
  try simp only [Act.put, List.getElem_toArray, List.getElem_cons_succ, List.getElem_cons_zero, List.setIfInBounds_toArray, List.set_cons_zero, List.set_cons_succ]
  refine wpAnyH_done (by kernel_rfl) ?_ _
  have HK : Hid (K9 w.heap.size gf b1 b2 ep dc r o1 o2 m v q w11) := HS
  clear HS
  go_upto_region 6 with fail
  have hbD : Below w11.heap.size w11 w11.drew := (Below.refl _ _).drew
  replace HT : Hid (TabAt w11.drew) := HT.out.later hbD
  replace HU : Hid (Ux p ((((((((((c + k1) + k2) + k3) + k4) + k5) + k6) + k7) + k8) + k9) + k10) w w11.drew) := HU.out.later hbD
  replace HY : Hid (Y3 go' (.int .i64 0) (.int .i64 0) (.int .i64 0) w11.drew) := HY.out.later hbD
  have HK' : K9 w.heap.size gf b1 b2 ep dc r o1 o2 m v q w11.drew := HK.out.later hbD
  refine wp_region_held_drew (S := fun W' => K9 w.heap.size gf b1 b2 ep dc r o1 o2 m v q W') (by kernel_rfl) HK' (fun HS => ?_)
  clear hbD HK' HK
  generalize w11.drew = w11d at *
  refine wpAnyH_take (i := 0) (v := ?_) rfl (by kernel_rfl) (by kernel_rfl) (by kernel_rfl) (fun _ _ _ h => h) (Or.inl ⟨by kernel_rfl, ?_⟩) HS ?_
  rotate_left
  · (rintro w ⟨s3, s4, s5, s6, s9, s10, s11, p0, p1, p2⟩; go_simp) <;> with_reducible rfl
  try simp only [Act.put, List.getElem_toArray, List.getElem_cons_succ, List.getElem_cons_zero, List.setIfInBounds_toArray, List.set_cons_zero, List.set_cons_succ]
  refine wpAnyH_take (i := 1) (v := ?_) rfl (by kernel_rfl) (by kernel_rfl) (by kernel_rfl) (fun _ _ _ h => h) (Or.inl ⟨by kernel_rfl, ?_⟩) HS ?_
  rotate_left
  · (rintro w ⟨s3, s4, s5, s6, s9, s10, s11, p0, p1, p2⟩; go_simp) <;> with_reducible rfl
  try simp only [Act.put, List.getElem_toArray, List.getElem_cons_succ, List.getElem_cons_zero, List.setIfInBounds_toArray, List.set_cons_zero, List.set_cons_succ]
  refine wpAnyH_take (i := 2) (v := ?_) rfl (by kernel_rfl) (by kernel_rfl) (by kernel_rfl) (fun _ _ _ h => h) (Or.inl ⟨by kernel_rfl, ?_⟩) HS ?_
  rotate_left
  · (rintro w ⟨s3, s4, s5, s6, s9, s10, s11, p0, p1, p2⟩; go_simp) <;> with_reducible rfl
  try simp only [Act.put, List.getElem_toArray, List.getElem_cons_succ, List.getElem_cons_zero, List.setIfInBounds_toArray, List.set_cons_zero, List.set_cons_succ]
  refine wpAnyH_take (i := 3) (v := ?_) rfl (by kernel_rfl) (by kernel_rfl) (by kernel_rfl) (fun _ _ _ h => h) (Or.inl ⟨by kernel_rfl, ?_⟩) HS ?_
  rotate_left
  · (rintro w ⟨s3, s4, s5, s6, s9, s10, s11, p0, p1, p2⟩; go_simp) <;> with_reducible rfl
  try simp only [Act.put, List.getElem_toArray, List.getElem_cons_succ, List.getElem_cons_zero, List.setIfInBounds_toArray, List.set_cons_zero, List.set_cons_succ]
  refine wpAnyH_take (i := 4) (v := ?_) rfl (by kernel_rfl) (by kernel_rfl) (by kernel_rfl) (fun _ _ _ h => h) (Or.inl ⟨by kernel_rfl, ?_⟩) HS ?_
  rotate_left
  · (rintro w ⟨s3, s4, s5, s6, s9, s10, s11, p0, p1, p2⟩; go_simp) <;> with_reducible rfl
  try simp only [Act.put, List.getElem_toArray, List.getElem_cons_succ, List.getElem_cons_zero, List.setIfInBounds_toArray, List.set_cons_zero, List.set_cons_succ]
  refine wpAnyH_take (i := 5) (v := ?_) rfl (by kernel_rfl) (by kernel_rfl) (by kernel_rfl) (fun _ _ _ h => h) (Or.inl ⟨by kernel_rfl, ?_⟩) HS ?_
  rotate_left
  · (rintro w ⟨s3, s4, s5, s6, s9, s10, s11, p0, p1, p2⟩; go_simp) <;> with_reducible rfl
  try simp only [Act.put, List.getElem_toArray, List.getElem_cons_succ, List.getElem_cons_zero, List.setIfInBounds_toArray, List.set_cons_zero, List.set_cons_succ]
  refine wpAnyH_take (i := 6) (v := ?_) rfl (by kernel_rfl) (by kernel_rfl) (by kernel_rfl) (fun _ _ _ h => h) (Or.inl ⟨by kernel_rfl, ?_⟩) HS ?_
  rotate_left
  · (rintro w ⟨s3, s4, s5, s6, s9, s10, s11, p0, p1, p2⟩; go_simp) <;> with_reducible rfl
  try simp only [Act.put, List.getElem_toArray, List.getElem_cons_succ, List.getElem_cons_zero, List.setIfInBounds_toArray, List.set_cons_zero, List.set_cons_succ]
  refine wpAnyH_take (i := 7) (v := ?_) rfl (by kernel_rfl) (by kernel_rfl) (by kernel_rfl) (fun _ _ _ h => h) (Or.inl ⟨by kernel_rfl, ?_⟩) HS ?_
  rotate_left
  · (rintro w ⟨s3, s4, s5, s6, s9, s10, s11, p0, p1, p2⟩; go_simp) <;> with_reducible rfl
  try simp only [Act.put, List.getElem_toArray, List.getElem_cons_succ, List.getElem_cons_zero, List.setIfInBounds_toArray, List.set_cons_zero, List.set_cons_succ]
  refine wpAnyH_take (i := 8) (v := ?_) rfl (by kernel_rfl) (by kernel_rfl) (by kernel_rfl) (fun _ _ _ h => h) (Or.inl ⟨by kernel_rfl, ?_⟩) HS ?_
  rotate_left
  · (rintro w ⟨s3, s4, s5, s6, s9, s10, s11, p0, p1, p2⟩; go_simp) <;> with_reducible rfl
  try simp only [Act.put, List.getElem_toArray, List.getElem_cons_succ, List.getElem_cons_zero, List.setIfInBounds_toArray, List.set_cons_zero, List.set_cons_succ]
  refine wpAnyH_ready (rs := [9]) (by kernel_rfl) (by simp) ?_
  refine AllReadyH.cons rfl (fun K hK => ?_) AllReadyH.nil
  go_simp
  refine (C11.out _ ((((((((((c + k1) + k2) + k3) + k4) + k5) + k6) + k7) + k8) + k9) + k10) (by omega) (by omega) HT.out HU.out.up).mono ?_
  rintro e w12 ⟨rfl, hU⟩
  refine hK.out _ _ (HS.ux ns nf hU) (fun HS => ?_)
  clear hK K
  replace HT : Hid (TabAt w12) := HT.out.ux HU.out.up hU
  replace HU : Hid (Ux p (((((((((((c + k1) + k2) + k3) + k4) + k5) + k6) + k7) + k8) + k9) + k10) + k11) w w12) := HU.out.chain hU
  replace HY : Hid (Y3 go' (.int .i64 0) (.int .i64 0) (.int .i64 0) w12) := HY.out.ux no hU
  clear hU C11
  refine wpAnyH_ready (rs := [10]) (by kernel_rfl) (by simp) ?_
  refine AllReadyH.cons rfl (fun K hK => ?_) AllReadyH.nil
  go_simp
  refine (C12.out _ (((((((((((c + k1) + k2) + k3) + k4) + k5) + k6) + k7) + k8) + k9) + k10) + k11) (by omega) (by omega) HT.out HU.out.up).mono ?_
  rintro e w13 ⟨rfl, hU⟩
  refine hK.out _ _ (HS.ux ns nf hU) (fun HS => ?_)
  clear hK K
  replace HT : Hid (TabAt w13) := HT.out.ux HU.out.up hU
  replace HU : Hid (Ux p ((((((((((((c + k1) + k2) + k3) + k4) + k5) + k6) + k7) + k8) + k9) + k10) + k11) + k12) w w13) := HU.out.chain hU
  replace HY : Hid (Y3 go' (.int .i64 0) (.int .i64 0) (.int .i64 0) w13) := HY.out.ux no hU
  clear hU C12
  refine wpAnyH_take (i := 11) (v := ?_) rfl (by kernel_rfl) (by kernel_rfl) (by kernel_rfl) (fun _ _ _ h => h) (Or.inl ⟨by kernel_rfl, ?_⟩) HS ?_
  rotate_left
  · (rintro w ⟨s3, s4, s5, s6, s9, s10, s11, p0, p1, p2⟩; go_simp) <;> with_reducible rfl
  try simp only [Act.put, List.getElem_toArray, List.getElem_cons_succ, List.getElem_cons_zero, List.setIfInBounds_toArray, List.set_cons_zero, List.set_cons_succ]
  have y0 := HY.out.c0
  have y1 := HY.out.c1
  have y2 := HY.out.c2
  have f0 := HY.out.f0
  have f1 := HY.out.f1
  have f2 := HY.out.f2
  refine wpAnyH_ready (rs := [12]) (by kernel_rfl) (by simp) ?_
  refine AllReadyH.cons rfl (fun K hK => ?_) AllReadyH.nil
  go_simp
  refine hK.out _ _ (((HS.far _ _ hos hof).far _ _ hos hof).far _ _ hos hof) (fun HS => ?_)
  clear hK K
  refine wpAnyH_done (by kernel_rfl) ?_ _
  clear HS
  have HZ : Hid (Y3 go' (.int .i64 vm) (.int .i64 vv) (.int .i64 vy) (((w13.setCell ⟨go', 0, none⟩ (.int .i64 vm)).setCell ⟨go', 1, none⟩ (.int .i64 vv)).setCell ⟨go', 2, none⟩ (.int .i64 vy))) := ((HY.out.set0 _).set1 _).set2 _
  have HV : Hid (Ux p (c + (k1 + k2 + k3 + k4 + k5 + k6 + k7 + k8 + k9 + k10 + k11 + k12)) w (((w13.setCell ⟨go', 0, none⟩ (.int .i64 vm)).setCell ⟨go', 1, none⟩ (.int .i64 vv)).setCell ⟨go', 2, none⟩ (.int .i64 vy))) := by
    have h := ((HU.out.far (a := ⟨go', 0, none⟩) (.int .i64 vm) hso).far (a := ⟨go', 1, none⟩) (.int .i64 vv) hso).far (a := ⟨go', 2, none⟩) (.int .i64 vy) hso
    rw [show c + (k1 + k2 + k3 + k4 + k5 + k6 + k7 + k8 + k9 + k10 + k11 + k12) = ((((((((((((c + k1) + k2) + k3) + k4) + k5) + k6) + k7) + k8) + k9) + k10) + k11) + k12) by omega]
    exact h
  clear y0 y1 y2 f0 f1 f2 HU HY HT
  generalize (((w13.setCell ⟨go', 0, none⟩ (.int .i64 vm)).setCell ⟨go', 1, none⟩ (.int .i64 vv)).setCell ⟨go', 2, none⟩ (.int .i64 vy)) = wE at *
  have z0 := HZ.out.c0
  have z1 := HZ.out.c1
  have z2 := HZ.out.c2
  go_wp2
  exact bodyPost_ret (v := .agg #[.int .i64 vm, .int .i64 vv, .int .i64 vy]) (by simp [results, Tryz.results22, go_sem, z0, z1, z2]) rfl ⟨rfl, HV.out⟩
/-- Where a parameter comes to, and how much is counted. -/
theorem move_ux (B Wm b1 b2 ep dc cl tt r o1 o2 m v q g : Int) (vD : Value) (hD : ∃ ad n cap, vD = .slice ad n cap) (h1 : 0 ≤ b1 ∧ b1 < 4294967296) (h2 : 0 ≤ b2 ∧ b2 < 4294967296) (he : 0 ≤ ep ∧ ep ≤ 9223372036854775807) (hd : 0 ≤ dc ∧ dc ≤ 9223372036854775807) (hr : 0 ≤ r ∧ r ≤ 9223372036854775807) (ho1 : 0 ≤ o1 ∧ o1 ≤ 4294967296) (ho2 : 0 ≤ o2 ∧ o2 ≤ 4294967296) (hm : -9223372036854775808 ≤ m ∧ m ≤ 9223372036854775807) (hv : -9223372036854775808 ≤ v ∧ v ≤ 9223372036854775807) (hq : -9223372036854775808 ≤ q ∧ q ≤ 9223372036854775807) (hg : -9223372036854775808 ≤ g ∧ g ≤ 9223372036854775807) (p : Option Addr) (c : Int) (c0 : 0 ≤ c) (c1 : c ≤ 840000000) (w : World) (hT : TabAt w) (hp : Up p c w) :
    Calls Tryz.prog 22 #[.agg #[.int .i64 B, .int .i64 Wm, vD, .int .i64 b1, .int .i64 b2, .int .i64 ep, .int .i64 dc, .int .i64 cl, .int .i64 tt, .int .i64 r, .int .i64 o1, .int .i64 o2], .pointer p, .agg #[.int .i64 m, .int .i64 v, .int .i64 q], .int .i64 g] w fun e w' => e = .returned (.agg #[.int .i64 (aM ⟨b1, b2, ep, dc, r, o1, o2⟩ m g), .int .i64 (aV ⟨b1, b2, ep, dc, r, o1, o2⟩ v g), .int .i64 (aY ⟨b1, b2, ep, dc, r, o1, o2⟩ m v q g)]) ∧ Ux p (c + aC ⟨b1, b2, ep, dc, r, o1, o2⟩ m v q g) w w' := by
  obtain ⟨adD, nD, caD, rfl⟩ := hD
  let k : Stp := ⟨b1, b2, ep, dc, r, o1, o2⟩
  have rM : -9223372036854775808 ≤ aM k m g ∧ aM k m g ≤ 9223372036854775807 := clv_rng _
  have rQ : -9223372036854775808 ≤ aQ g ∧ aQ g ≤ 9223372036854775807 := clv_rng _
  have rV : -9223372036854775808 ≤ aV k v g ∧ aV k v g ≤ 9223372036854775807 := clv_rng _
  have rA : -9223372036854775808 ≤ aA k m g ∧ aA k m g ≤ 9223372036854775807 := qv_in9 _ _
  have rD : -9223372036854775808 ≤ aD k v g ∧ aD k v g ≤ 9223372036854775807 := qv_in9 _ _
  have rB : 0 ≤ aB k v g ∧ aB k v g ≤ 9223372036854775807 := sv_in9 _ rD.2
  have rE : -9223372036854775808 ≤ aE k v g ∧ aE k v g ≤ 9223372036854775807 := clv_rng _
  have rF : -9223372036854775808 ≤ aF k m v g ∧ aF k m v g ≤ 9223372036854775807 := qv_in9 _ _
  have rG : -9223372036854775808 ≤ aG k q ∧ aG k q ≤ 9223372036854775807 := clv_rng _
  have rW : -9223372036854775808 ≤ aW k m v q g ∧ aW k m v q g ≤ 9223372036854775807 := clv_rng _
  have rR : -9223372036854775808 ≤ aR k m v q g ∧ aR k m v q g ≤ 9223372036854775807 := clv_rng _
  have M32 : ∀ (x y : Int), (-9223372036854775808 ≤ x ∧ x ≤ 9223372036854775807) → (-9223372036854775808 ≤ y ∧ y ≤ 9223372036854775807) → Cn2 45 p x y (clv (rnd (x * y) 32)) (bi (ovv (rnd (x * y) 32))) := fun x y hx hy W c h0 h1 _ hu => by
    have h := mul_ux x y hx.1 hx.2 hy.1 hy.2 p c h0 (by omega) W hu
    rw [rr32_9] at h
    exact h
  exact move_of p c B Wm b1 b2 ep dc cl tt r o1 o2 m v q g (aM k m g) (aQ g) (aV k v g) (aA k m g) (aD k v g) (aB k v g) (aE k v g) (aF k m v g) (aG k q) (aW k m v q g) (aR k m v q g) (aY k m v q g) _ _ _ _ _ _ _ _ _ _ _ _ adD nD caD c0 c1 (bi_rng _) (bi_rng _) (bi_rng _) (bi_rng _) (bi_rng _) (bi_rng _) (bi_rng _) (bi_rng _) (bi_rng _) (bi_rng _) (bi_rng _) (bi_rng _)
    (fun W c a0 a1 ht hu => mixed_ux b1 m g h1.1 h1.2 hm.1 hm.2 hg.1 hg.2 p c a0 (by omega) W ht hu)
    (M32 g g hg hg)
    (fun W c a0 a1 ht hu => mixed_ux b2 v (aQ g) h2.1 h2.2 hv.1 hv.2 rQ.1 rQ.2 p c a0 (by omega) W ht hu)
    (fun W c a0 a1 _ hu => div_ux (aM k m g) o1 rM.1 rM.2 (by omega) (by omega) p c a0 (by omega) W hu)
    (fun W c a0 a1 _ hu => div_ux (aV k v g) o2 rV.1 rV.2 (by omega) (by omega) p c a0 (by omega) W hu)
    (fun W c a0 a1 _ hu => sqrt_ux (aD k v g) rD.1 rD.2 p c a0 (by omega) W hu)
    (fun W c a0 a1 _ hu => add_ux (aB k v g) ep (by omega) rB.2 (by omega) he.2 p c a0 (by omega) W hu)
    (fun W c a0 a1 _ hu => div_ux (aA k m g) (aE k v g) rA.1 rA.2 rE.1 rE.2 p c a0 (by omega) W hu)
    (M32 dc q (by omega) hq)
    (fun W c a0 a1 _ hu => add_ux (aF k m v g) (aG k q) rF.1 rF.2 rG.1 rG.2 p c a0 (by omega) W hu)
    (M32 r (aW k m v q g) (by omega) rW)
    (fun W c a0 a1 _ hu => sub_ux q (aR k m v q g) hq.1 hq.2 rR.1 rR.2 p c a0 (by omega) W hu)
    w hT hp
end Go.Proofs.YtcdehbhdloaieaaGreatDoor
