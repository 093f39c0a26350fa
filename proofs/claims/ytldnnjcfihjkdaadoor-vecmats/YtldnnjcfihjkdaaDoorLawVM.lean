/-
  VecMats: a matrix times a vector has the dots of its rows, a vector times it those of its columns.
-/
import Derived.Test.YtldnnjcfihjkdaaDoorLawVS
import Derived.Test.YtldnnjcfihjkdaaDoorBJ
import Derived.Test.YtldnnjcfihjkdaaDoorPWalkC
import Derived.Test.YtldnnjcfihjkdaaDoorPWalkP
import Derived.Deep.DrawnRows
import Derived.Deep.RegionHeld3
set_option linter.unusedVariables false
set_option linter.unusedSimpArgs false
namespace Go.Proofs.YtldnnjcfihjkdaaDoor
open Go.RowKit

/-- The state of the law: two units, a matrix and its copy in boxes, the lists. -/
structure LM (w : World) (bm bw du dv : Nat) (r c : Int) (va vx vp : Value) (n m : Nat) (f g : Nat → Int) (cu cv : Int) (wz : World) : Prop where
  B : Below w.heap.size w wz
  V : VT wz
  u : Uc wz du cu
  v : Uc wz dv cv
  x : M3 bm (.int .i64 r) (.int .i64 c) va wz
  y : M3 bw (.int .i64 r) (.int .i64 c) vp wz
  a : Ar wz va n f
  b : Ar wz vx m g
  p : Ar wz vp n f
theorem LM.later {w : World} {bm bw du dv : Nat} {r c : Int} {va vx vp : Value} {n m : Nat} {f g : Nat → Int} {cu cv : Int} {wz wy : World} (h : LM w bm bw du dv r c va vx vp n m f g cu cv wz) (hb : Below wz.heap.size wz wy) : LM w bm bw du dv r c va vx vp n m f g cu cv wy :=
  ⟨bchain h.B hb, h.V.later hb, h.u.later hb, h.v.later hb, h.x.later hb, h.y.later hb, h.a.later hb, h.b.later hb, h.p.later hb⟩
theorem LM.unu {w : World} {bm bw du dv : Nat} {r c : Int} {va vx vp : Value} {n m : Nat} {f g : Nat → Int} {cu cv k : Int} {wz wy : World} (h : LM w bm bw du dv r c va vx vp n m f g cu cv wz) (hU : Un du k wz wy) (hw : w.heap.size ≤ du) (h1 : dv ≠ du) (h2 : bm ≠ du) (h3 : bw ≠ du) (ha : Nb va du) (hb : Nb vx du) (hp : Nb vp du) : LM w bm bw du dv r c va vx vp n m f g k cv wy :=
  ⟨hU.b _ _ hw h.B.size h.B, TabAt.un h.V h.u.1 hU, ⟨hU.c, hU.f⟩, h.v.un hU h1, h.x.un hU h2, h.y.un hU h3, h.a.un ha hU, h.b.un hb hU, h.p.un hp hU⟩
theorem LM.unv {w : World} {bm bw du dv : Nat} {r c : Int} {va vx vp : Value} {n m : Nat} {f g : Nat → Int} {cu cv k : Int} {wz wy : World} (h : LM w bm bw du dv r c va vx vp n m f g cu cv wz) (hU : Un dv k wz wy) (hw : w.heap.size ≤ dv) (h1 : du ≠ dv) (h2 : bm ≠ dv) (h3 : bw ≠ dv) (ha : Nb va dv) (hb : Nb vx dv) (hp : Nb vp dv) : LM w bm bw du dv r c va vx vp n m f g cu k wy :=
  ⟨hU.b _ _ hw h.B.size h.B, TabAt.un h.V h.v.1 hU, h.u.un hU h1, ⟨hU.c, hU.f⟩, h.x.un hU h2, h.y.un hU h3, h.a.un ha hU, h.b.un hb hU, h.p.un hp hU⟩
theorem LM.cells {w : World} {bm bw du dv : Nat} {r c : Int} {va vx vp : Value} {n m : Nat} {f g : Nat → Int} {cu cv : Int} {wz : World} (h : LM w bm bw du dv r c va vx vp n m f g cu cv wz) : wz.cell? ⟨bm, 0, none⟩ = some (.int .i64 r) ∧ wz.cell? ⟨bm, 1, none⟩ = some (.int .i64 c) ∧ wz.cell? ⟨bm, 2, none⟩ = some va ∧ wz.cell? ⟨bw, 0, none⟩ = some (.int .i64 r) ∧ wz.cell? ⟨bw, 1, none⟩ = some (.int .i64 c) ∧ wz.cell? ⟨bw, 2, none⟩ = some vp := ⟨h.x.c0, h.x.c1, h.x.c2, h.y.c0, h.y.c1, h.y.c2⟩
theorem ow_nb {base d : Nat} {v : Value} (h : Ow base v) (hd : d < base) : Nb v d := h.nb hd
theorem mat_nat {r c : Int} {n : Nat} (h : mtB r c n = true) : ∃ R C : Nat, r = (R : Int) ∧ c = (C : Int) ∧ n = R * C ∧ 1 ≤ R ∧ 1 ≤ C ∧ R * C ≤ 65536 := by
  obtain ⟨a, b, -, -, d, e⟩ := mt_yes h
  obtain ⟨R, rfl⟩ := Int.eq_ofNat_of_zero_le (show 0 ≤ r by omega)
  obtain ⟨C, rfl⟩ := Int.eq_ofNat_of_zero_le (show 0 ≤ c by omega)
  rw [← Int.natCast_mul] at d e
  exact ⟨R, C, rfl, rfl, by omega, by omega, by omega, by omega⟩
theorem ar_some {w : World} {ad : Option Addr} {n cap : Nat} {f : Nat → Int} (h : Ar w (.slice ad n cap) n f) (hn : 1 ≤ n) : ∃ b o, ad = some ⟨b, o, none⟩ := by
  obtain ⟨b, o, e, -⟩ := h.at 0 hn
  exact ⟨b, o, e⟩
theorem MatVec_mt (r c : Int) (ada : Option Addr) (n ca m : Nat) (vx : Value) (f g : Nat → Int) (d : Nat) (k : Int) (h : mtB r c n = true) (hm : (m : Int) = c) (k0 : 0 ≤ k) (k1 : k ≤ 800000000) (w : World) (hV : VT w) (hA : Ar w (.slice ada n ca) n f) (hX : Ar w vx m g) (ha : Nb (.slice ada n ca) d) (hx : Nb vx d) (hU : Uc w d k) :
    Calls Tryd.prog 34 #[.pointer (some ⟨d, 0, none⟩), .agg #[.int .i64 r, .int .i64 c, .slice ada n ca], vx] w fun e w' => ∃ q, e = .returned (.tuple #[.slice (some ⟨q, 0, none⟩) r.toNat r.toNat, .int .i64 0]) ∧ Ar w' (.slice (some ⟨q, 0, none⟩) r.toNat r.toNat) r.toNat (mvX f g c.toNat) ∧ w.heap.size ≤ q ∧ Un d (k + cntV (mvO f g c.toNat) r.toNat) w w' := by
  obtain ⟨R, C, rfl, rfl, rfl, hR, hC, hRC⟩ := mat_nat h
  obtain rfl : m = C := by omega
  obtain ⟨b, o, rfl⟩ := ar_some hA (Nat.mul_pos hR hC)
  simp only [Int.toNat_natCast]
  exact MatVec_un b o ca R m f g vx hR hC hRC d k k0 k1 w hV hA hX ha hx hU.1 hU.2
theorem VecMat_mt (r c : Int) (ada : Option Addr) (n ca m : Nat) (vx : Value) (f g : Nat → Int) (d : Nat) (k : Int) (h : mtB r c n = true) (hm : (m : Int) = r) (k0 : 0 ≤ k) (k1 : k ≤ 800000000) (w : World) (hV : VT w) (hA : Ar w (.slice ada n ca) n f) (hX : Ar w vx m g) (hx : Nb vx d) (hU : Uc w d k) :
    Calls Tryd.prog 36 #[.pointer (some ⟨d, 0, none⟩), vx, .agg #[.int .i64 r, .int .i64 c, .slice ada n ca]] w fun e w' => ∃ q, e = .returned (.tuple #[.slice (some ⟨q, 0, none⟩) c.toNat c.toNat, .int .i64 0]) ∧ Ar w' (.slice (some ⟨q, 0, none⟩) c.toNat c.toNat) c.toNat (vmX f g r.toNat c.toNat) ∧ w.heap.size ≤ q ∧ Un d (k + cntV (vmO f g r.toNat c.toNat) c.toNat) w w' := by
  obtain ⟨R, C, rfl, rfl, rfl, hR, hC, hRC⟩ := mat_nat h
  obtain rfl : m = R := by omega
  obtain ⟨b, o, rfl⟩ := ar_some hA (Nat.mul_pos hR hC)
  simp only [Int.toNat_natCast]
  exact VecMat_un b o ca m C f g vx hR hC hRC d k k0 k1 w hV hA hX hx hU.1 hU.2
theorem umatvec_mt (r c : Int) (ada : Option Addr) (n ca m : Nat) (vx : Value) (f g : Nat → Int) (d : Nat) (k : Int) (h : mtB r c n = true) (hm : (m : Int) = c) (k0 : 0 ≤ k) (k1 : k ≤ 800000000) (w : World) (hA : Ar w (.slice ada n ca) n f) (hX : Ar w vx m g) (ha : Nb (.slice ada n ca) d) (hx : Nb vx d) (hU : Uc w d k) :
    Calls Tryd.prog 35 #[.pointer (some ⟨d, 0, none⟩), .agg #[.int .i64 r, .int .i64 c, .slice ada n ca], vx] w fun e w' => ∃ v', e = .returned v' ∧ Ar w' v' r.toNat (mvX f g c.toNat) ∧ Un d (k + cntV (mvO f g c.toNat) r.toNat) w w' := by
  obtain ⟨R, C, rfl, rfl, rfl, hR, hC, hRC⟩ := mat_nat h
  obtain rfl : m = C := by omega
  obtain ⟨b, o, rfl⟩ := ar_some hA (Nat.mul_pos hR hC)
  simp only [Int.toNat_natCast]
  refine (umatvec_any b o ca R m f vx g d k hR hC hRC k0 (by omega) w hA hX (ha ⟨b, o, none⟩ _ _ rfl (Nat.mul_pos hR hC)) hx hU.1 hU.2).mono ?_
  rintro e w' ⟨v', rfl, h1, -, h2⟩
  exact ⟨v', rfl, h1, h2⟩
theorem uvecmat_mt (r c : Int) (ada : Option Addr) (n ca m : Nat) (vx : Value) (f g : Nat → Int) (d : Nat) (k : Int) (h : mtB r c n = true) (hm : (m : Int) = r) (k0 : 0 ≤ k) (k1 : k ≤ 800000000) (w : World) (hA : Ar w (.slice ada n ca) n f) (hX : Ar w vx m g) (ha : Nb (.slice ada n ca) d) (hx : Nb vx d) (hU : Uc w d k) :
    Calls Tryd.prog 37 #[.pointer (some ⟨d, 0, none⟩), vx, .agg #[.int .i64 r, .int .i64 c, .slice ada n ca]] w fun e w' => ∃ v', e = .returned v' ∧ Ar w' v' c.toNat (vmX f g r.toNat c.toNat) ∧ Un d (k + cntV (vmO f g r.toNat c.toNat) c.toNat) w w' := by
  obtain ⟨R, C, rfl, rfl, rfl, hR, hC, hRC⟩ := mat_nat h
  obtain rfl : m = R := by omega
  obtain ⟨b, o, rfl⟩ := ar_some hA (Nat.mul_pos hR hC)
  simp only [Int.toNat_natCast]
  refine (uvecmat_any b o ca m C f vx g d k hR hC hRC k0 (by omega) w hA hX (ha ⟨b, o, none⟩ _ _ rfl (Nat.mul_pos hR hC)) hx hU.1 hU.2).mono ?_
  rintro e w' ⟨v', rfl, h1, -, h2⟩
  exact ⟨v', rfl, h1, h2⟩
theorem mt_small {r c : Int} {n : Nat} (h : mtB r c n = true) (hn : n ≤ 200) : r.toNat ≤ 200 ∧ c.toNat ≤ 200 := by
  obtain ⟨R, C, rfl, rfl, rfl, hR, hC, -⟩ := mat_nat h
  have a := Nat.le_mul_of_pos_right R hC
  have b := Nat.le_mul_of_pos_left C hR
  simp only [Int.toNat_natCast]
  omega
set_option maxRecDepth 100000 in
set_option maxHeartbeats 16000000 in
theorem vecMats_any (r c : Int) (va vx : Value) (n m : Nat) (f g : Nat → Int) (r0 : -9223372036854775808 ≤ r) (r1 : r ≤ 9223372036854775807) (c0 : -9223372036854775808 ≤ c) (c1 : c ≤ 9223372036854775807) (w : World) (hV : VT w) (hA : Ar w va n f) (hB : Ar w vx m g) :
    Calls Tryd.prog 5 #[.agg #[.int .i64 r, .int .i64 c, va], vx] w fun e w' => e = .returned (.bool true) ∧ Below w.heap.size w w' := by
  obtain ⟨ada, ca, ba, oa, rfl, k1, k2, -, -⟩ := id hA
  obtain ⟨adb, cb, bb, ob, rfl, q1, q2, -, -⟩ := id hB
  have HNa : Hid ((∀ d, w.heap.size ≤ d → Nb (.slice ada n ca) d) ∧ (∀ d, w.heap.size ≤ d → Nb (.slice adb m cb) d)) := ⟨fun d hd => hA.nb hd, fun d hd => hB.nb hd⟩
  have hb0 := bel1 w (.cells #[.int .i64 r, .int .i64 c, .slice ada n ca] 56)
  have hs0 : w.heap.size < (w.alloc (.cells #[.int .i64 r, .int .i64 c, .slice ada n ca] 56)).heap.size := by simp
  have HAB : Hid (Ar w (.slice ada n ca) n f ∧ Ar w (.slice adb m cb) m g ∧ VT w) := ⟨hA, hB, hV⟩
  have HM : Hid (M3 w.heap.size (.int .i64 r) (.int .i64 c) (.slice ada n ca) (w.alloc (.cells #[.int .i64 r, .int .i64 c, .slice ada n ca] 56))) := M3.new w _ _ _ _
  have HB0 : Hid (Below w.heap.size w (w.alloc (.cells #[.int .i64 r, .int .i64 c, .slice ada n ca] 56))) := hb0
  clear hA hB hV hb0
  go_enter Tryd.func5, Tryd.ntmps5
  go_upto_region 1 with fail
  generalize w.alloc (.cells #[.int .i64 r, .int .i64 c, .slice ada n ca] 56) = w0 at *
  go_wp2_with fail
  refine (vawake_any vec1 _ (HAB.out.2.2.later HB0.out)).mono ?_
  rintro e w1 ⟨rfl, W1⟩
  have HW1 : Hid (Below w0.heap.size w0 w1) := W1
  have cA := (HM.out.later W1).c2
  have HF : Hid (Calls Tryd.prog 10 #[.slice (some ⟨w1.heap.size, 0, none⟩) 2 2] (w1.alloc (.cells #[.slice ada n ca, .slice adb m cb] 22)) fun e w' => e = .returned (.bool (decide (n ≤ 200) && decide (m ≤ 200))) ∧ w' = (w1.alloc (.cells #[.slice ada n ca, .slice adb m cb] 22))) := few2_any w1 ada adb n m ca cb (by omega) (by omega)
  clear W1
  go_wp2_with fail
  refine HF.out.mono ?_
  rintro e w2 ⟨rfl, hw2⟩
  have HW2 : Hid (Below w0.heap.size w0 w2) := by show Below _ _ _; rw [hw2]; exact bchain HW1.out (bel1' _ _)
  clear HF cA hw2 HW1
  obtain ⟨R, hR⟩ : ∃ R, (decide (n ≤ 200) && decide (m ≤ 200)) = R := ⟨_, rfl⟩
  rw [hR]
  cases R
  · clear hR
    go_wp2
    go_ret
    exact ⟨rfl, bchain HB0.out HW2.out⟩
  have hnm : n ≤ 200 ∧ m ≤ 200 := by simpa using hR
  obtain ⟨hn, hm⟩ := hnm
  clear hR
  have hs2 : w.heap.size < w2.heap.size := Nat.lt_of_lt_of_le hs0 HW2.out.size
  go_upto_region 6 with fail
  have HB4 : Hid (Below w2.heap.size w2 ((w2.alloc (.cells #[.int .i64 0] 29)).alloc (.cells #[.int .i64 0] 32))) := bel2 w2 _ _
  have HU4 : Hid (Uc ((w2.alloc (.cells #[.int .i64 0] 29)).alloc (.cells #[.int .i64 0] 32)) w2.heap.size 0 ∧ Uc ((w2.alloc (.cells #[.int .i64 0] 29)).alloc (.cells #[.int .i64 0] 32)) (w2.heap.size + 1) 0) := ⟨⟨by simp [go_sem], by simp [go_sem]⟩, ⟨by simp [go_sem], by simp [go_sem]⟩⟩
  have hs4 : w2.heap.size + 2 ≤ ((w2.alloc (.cells #[.int .i64 0] 29)).alloc (.cells #[.int .i64 0] 32)).heap.size := by simp
  generalize (w2.alloc (.cells #[.int .i64 0] 29)).alloc (.cells #[.int .i64 0] 32) = w4 at *
  have HM4 : Hid (M3 w.heap.size (.int .i64 r) (.int .i64 c) (.slice ada n ca) w4) := HM.out.later (bchain HW2.out HB4.out)
  have HB04 : Hid (Below w.heap.size w w4) := bchain HB0.out (bchain HW2.out HB4.out)
  have y0 := HM4.out.c0
  have y1 := HM4.out.c1
  have y2 := HM4.out.c2
  clear HB4 HW2 HB0 HM hs0
  go_wp2_with fail
  refine (mat_any r c (.slice ada n ca) n f (by omega) w4 (HAB.out.1.later HB04.out)).mono ?_
  rintro e w5 ⟨vp, rfl, hp, hO, hb5⟩
  obtain ⟨adp, cp, bp, op, rfl, p1, p2, -, -⟩ := id hp
  have hs5 : w2.heap.size + 2 ≤ w5.heap.size := Nat.le_trans hs4 hb5.size
  have HS : Hid (LM w w.heap.size w5.heap.size w2.heap.size (w2.heap.size + 1) r c (.slice ada n ca) (.slice adb m cb) (.slice adp n cp) n m f g 0 0 (w5.alloc (.cells #[.int .i64 r, .int .i64 c, .slice adp n cp] 58))) := by
    have hb6 := bchain hb5 (bel1 w5 (.cells #[.int .i64 r, .int .i64 c, .slice adp n cp] 58))
    have hbw := bchain HB04.out hb6
    exact ⟨hbw, HAB.out.2.2.later hbw, HU4.out.1.later hb6, HU4.out.2.later hb6, HM4.out.later hb6, M3.new w5 _ _ _ _, HAB.out.1.later hbw, HAB.out.2.1.later hbw, hp.later (bel1 _ _)⟩
  have HN : Hid ((∀ d, w.heap.size ≤ d → Nb (.slice ada n ca) d) ∧ (∀ d, w.heap.size ≤ d → Nb (.slice adb m cb) d) ∧ Nb (.slice adp n cp) w2.heap.size ∧ Nb (.slice adp n cp) (w2.heap.size + 1)) := ⟨HNa.out.1, HNa.out.2, hO.nb (by omega), hO.nb (by omega)⟩
  clear hp hO hb5 y0 y1 y2 HM4 HB04 HU4 HNa HAB hs4
  unfold maxLen at k2 q2 p2
  go_upto_region 7 with fail
  generalize w5.alloc (.cells #[.int .i64 r, .int .i64 c, .slice adp n cp] 58) = w6 at *
  generalize w5.heap.size = bw at *
  generalize w2.heap.size = du at *
  generalize hdv : du + 1 = dv at *
  have hdv1 : du < dv := by omega
  have hdv2 : dv < bw := by omega
  clear hs5 hdv
  have CR : Hid (∀ W : World, Calls Tryd.prog 32 #[.agg #[.int .i64 r, .int .i64 c, .slice ada n ca]] W fun e w' => e = .returned (.bool (mtB r c n)) ∧ Below W.heap.size W w') := fun W => Right_any r c r0 r1 c0 c1 ada n ca (by omega) W
  have CQ : Hid (∀ W : World, Calls Tryd.prog 33 #[.agg #[.int .i64 r, .int .i64 c, .slice adp n cp]] W fun e w' => e = .returned (.bool (mtB r c n)) ∧ Below W.heap.size W w') := fun W => right_any r c r0 r1 c0 c1 adp n cp (by omega) W
  obtain ⟨MT, hMT⟩ : ∃ b, mtB r c n = b := ⟨_, rfl⟩
  have HMT : Hid (mtB r c n = MT) := hMT
  rw [hMT] at CR CQ
  clear hMT
  have HS7 : Hid (LM w w.heap.size bw du dv r c (.slice ada n ca) (.slice adb m cb) (.slice adp n cp) n m f g 0 0 w6.drew) := HS.out.later ((Below.refl _ _).drew)
  clear HS
  have HS := HS7
  clear HS7
  go_region_held3 (fun w' => w'.cell? ⟨w.heap.size, 0, none⟩ = some (.int .i64 r) ∧ w'.cell? ⟨w.heap.size, 1, none⟩ = some (.int .i64 c) ∧ w'.cell? ⟨w.heap.size, 2, none⟩ = some (.slice ada n ca) ∧ w'.cell? ⟨bw, 0, none⟩ = some (.int .i64 r) ∧ w'.cell? ⟨bw, 1, none⟩ = some (.int .i64 c) ∧ w'.cell? ⟨bw, 2, none⟩ = some (.slice adp n cp))
    (exact HS.out.cells)
    (first
      | (go_at_call 32; refine (CR.out _).mono ?_; rintro e wz ⟨rfl, hb⟩; have HS' : Hid (LM w w.heap.size bw du dv r c (.slice ada n ca) (.slice adb m cb) (.slice adp n cp) n m f g 0 0 wz) := HS.out.later hb; clear HS hb; have HS := HS'; clear HS')
      | (go_at_call 33; refine (CQ.out _).mono ?_; rintro e wz ⟨rfl, hb⟩; have HS' : Hid (LM w w.heap.size bw du dv r c (.slice ada n ca) (.slice adb m cb) (.slice adp n cp) n m f g 0 0 wz) := HS.out.later hb; clear HS hb; have HS := HS'; clear HS'))
  have HB9 : Hid (Below w.heap.size w wz) := HS.out.B
  clear HB9
  cases MT
  · clear CR
    have y0 := HS.out.y.c0
    have y1 := HS.out.y.c1
    have y2 := HS.out.y.c2
    have x0 := HS.out.x.c0
    have x1 := HS.out.x.c1
    have x2 := HS.out.x.c2
    have CMV := MatVec_err (some ⟨du, 0, none⟩) r c r0 r1 c0 c1 ada adb n ca m cb (by omega) (by omega) wz (fun x => by rw [HMT.out] at x; cases x.1)
    rw [show mvE r c n m = 40 by unfold mvE; rw [if_neg (by omega), if_neg (fun x => by rw [HMT.out] at x; cases x.1)]] at CMV
    replace CMV : Hid (Calls _ _ _ _ _) := CMV
    go_wp2_with fail
    refine CMV.out.mono ?_
    rintro e w10 ⟨rfl, hb⟩
    clear y0 y1 y2 x0 x1 x2
    have HS' : Hid (LM w w.heap.size bw du dv r c (.slice ada n ca) (.slice adb m cb) (.slice adp n cp) n m f g 0 0 w10) := HS.out.later hb
    clear HS
    have HS := HS'
    clear HS'
    clear hb CMV
    have y0 := HS.out.y.c0
    have y1 := HS.out.y.c1
    have y2 := HS.out.y.c2
    have x0 := HS.out.x.c0
    have x1 := HS.out.x.c1
    have x2 := HS.out.x.c2
    go_wp2_with fail
    refine (CQ.out _).mono ?_
    rintro e w11 ⟨rfl, hb⟩
    clear y0 y1 y2 x0 x1 x2
    have HS' : Hid (LM w w.heap.size bw du dv r c (.slice ada n ca) (.slice adb m cb) (.slice adp n cp) n m f g 0 0 w11) := HS.out.later hb
    clear HS
    have HS := HS'
    clear HS'
    clear hb
    have y0 := HS.out.y.c0
    have y1 := HS.out.y.c1
    have y2 := HS.out.y.c2
    have x0 := HS.out.x.c0
    have x1 := HS.out.x.c1
    have x2 := HS.out.x.c2
    have CF := refused_yes (.slice none 0 0) none 0 40 du w11 rfl HS.out.u
    replace CF : Hid (Calls _ _ _ _ _) := CF
    go_wp2_with fail
    refine CF.out.mono ?_
    rintro e w12 ⟨rfl, hz⟩
    subst hz
    clear y0 y1 y2 x0 x1 x2
    clear CF
    have CCl := clear_any du 0 _ HS.out.u.1 HS.out.u.2
    replace CCl : Hid (Calls _ _ _ _ _) := CCl
    go_wp2_with fail
    refine CCl.out.mono ?_
    rintro e w20 ⟨rfl, hU⟩
    have HS' : Hid (LM w w.heap.size bw du dv r c (.slice ada n ca) (.slice adb m cb) (.slice adp n cp) n m f g 0 0 w20) := HS.out.unu hU (by omega) (by omega) (by omega) (by omega) (HN.out.1 du (by omega)) (HN.out.2.1 du (by omega)) (HN.out.2.2.1)
    clear HS hU CCl
    have HS := HS'
    clear HS'
    have z0 := HS.out.v.1
    have z1 := HS.out.v.2
    have HS' : Hid (LM w w.heap.size bw du dv r c (.slice ada n ca) (.slice adb m cb) (.slice adp n cp) n m f g 0 0 (w20.setCell ⟨dv, 0, none⟩ (.int .i64 0))) := HS.out.unv (Un.set z0 z1) (by omega) (by omega) (by omega) (by omega) (HN.out.1 dv (by omega)) (HN.out.2.1 dv (by omega)) (HN.out.2.2.2)
    go_upto_region 17 with fail
    clear z0 z1 HS
    have HS := HS'
    clear HS'
    generalize w20.setCell ⟨dv, 0, none⟩ (.int .i64 0) = w21 at *
    have y0 := HS.out.y.c0
    have y1 := HS.out.y.c1
    have y2 := HS.out.y.c2
    have x0 := HS.out.x.c0
    have x1 := HS.out.x.c1
    have x2 := HS.out.x.c2
    have CMV := VecMat_err (some ⟨du, 0, none⟩) r c r0 r1 c0 c1 ada adb n ca m cb (by omega) (by omega) w21 (fun x => by rw [HMT.out] at x; cases x.1)
    rw [show vmE r c n m = 40 by unfold vmE; rw [if_neg (by omega), if_neg (fun x => by rw [HMT.out] at x; cases x.1)]] at CMV
    replace CMV : Hid (Calls _ _ _ _ _) := CMV
    go_wp2_with fail
    refine CMV.out.mono ?_
    rintro e w25 ⟨rfl, hb⟩
    clear y0 y1 y2 x0 x1 x2
    have HS' : Hid (LM w w.heap.size bw du dv r c (.slice ada n ca) (.slice adb m cb) (.slice adp n cp) n m f g 0 0 w25) := HS.out.later hb
    clear HS
    have HS := HS'
    clear HS'
    clear hb CMV
    have y0 := HS.out.y.c0
    have y1 := HS.out.y.c1
    have y2 := HS.out.y.c2
    have x0 := HS.out.x.c0
    have x1 := HS.out.x.c1
    have x2 := HS.out.x.c2
    go_wp2_with fail
    refine (CQ.out _).mono ?_
    rintro e w26 ⟨rfl, hb⟩
    clear y0 y1 y2 x0 x1 x2
    have HS' : Hid (LM w w.heap.size bw du dv r c (.slice ada n ca) (.slice adb m cb) (.slice adp n cp) n m f g 0 0 w26) := HS.out.later hb
    clear HS
    have HS := HS'
    clear HS'
    clear hb
    have y0 := HS.out.y.c0
    have y1 := HS.out.y.c1
    have y2 := HS.out.y.c2
    have x0 := HS.out.x.c0
    have x1 := HS.out.x.c1
    have x2 := HS.out.x.c2
    have CF := refused_yes (.slice none 0 0) none 0 40 du w26 rfl HS.out.u
    replace CF : Hid (Calls _ _ _ _ _) := CF
    go_wp2_with fail
    refine CF.out.mono ?_
    rintro e w27 ⟨rfl, hz⟩
    subst hz
    clear y0 y1 y2 x0 x1 x2
    clear CF
    go_wp2
    go_ret
    exact ⟨by first | rfl | simp, HS.out.B⟩
  · clear CR
    by_cases hdim1 : (m : Int) = c
    · have hdim := hdim1
      have y0 := HS.out.y.c0
      have y1 := HS.out.y.c1
      have y2 := HS.out.y.c2
      have x0 := HS.out.x.c0
      have x1 := HS.out.x.c1
      have x2 := HS.out.x.c2
      have CMV := MatVec_mt r c ada n ca m (.slice adb m cb) f g du 0 HMT.out hdim (by omega) (by omega) _ HS.out.V HS.out.a HS.out.b (HN.out.1 du (by omega)) (HN.out.2.1 du (by omega)) HS.out.u
      rw [Int.zero_add] at CMV
      replace CMV : Hid (Calls _ _ _ _ _) := CMV
      go_wp2_with fail
      refine CMV.out.mono ?_
      rintro e w35 ⟨g1, rfl, hX, hg1, hU⟩
      clear y0 y1 y2 x0 x1 x2
      have hg2 : dv < g1 := by have := World.block_lt_of_cell? _ _ HS.out.y.c0; dsimp only at this; omega
      have HS' : Hid (LM w w.heap.size bw du dv r c (.slice ada n ca) (.slice adb m cb) (.slice adp n cp) n m f g (cntV (mvO f g c.toNat) r.toNat) 0 w35) := HS.out.unu hU (by omega) (by omega) (by omega) (by omega) (HN.out.1 du (by omega)) (HN.out.2.1 du (by omega)) (HN.out.2.2.1)
      clear HS
      have HS := HS'
      clear HS'
      have HX : Hid (Ar w35 (.slice (some ⟨g1, 0, none⟩) r.toNat r.toNat) r.toNat (mvX f g c.toNat)) := hX
      clear hX hg1 hU CMV
      have y0 := HS.out.y.c0
      have y1 := HS.out.y.c1
      have y2 := HS.out.y.c2
      have x0 := HS.out.x.c0
      have x1 := HS.out.x.c1
      have x2 := HS.out.x.c2
      go_wp2_with fail
      refine (CQ.out _).mono ?_
      rintro e w36 ⟨rfl, hb⟩
      clear y0 y1 y2 x0 x1 x2
      have HS' : Hid (LM w w.heap.size bw du dv r c (.slice ada n ca) (.slice adb m cb) (.slice adp n cp) n m f g (cntV (mvO f g c.toNat) r.toNat) 0 w36) := HS.out.later hb
      clear HS
      have HS := HS'
      clear HS'
      have HX' : Hid (Ar w36 (.slice (some ⟨g1, 0, none⟩) r.toNat r.toNat) r.toNat (mvX f g c.toNat)) := HX.out.later hb
      clear HX
      have HX := HX'
      clear HX'
      clear hb
      have y0 := HS.out.y.c0
      have y1 := HS.out.y.c1
      have y2 := HS.out.y.c2
      have x0 := HS.out.x.c0
      have x1 := HS.out.x.c1
      have x2 := HS.out.x.c2
      have hbq : ((m : Int) == c) = true := by rw [hdim]; exact beq_self_eq_true _
      go_upto_region 13 with fail
      clear y0 y1 y2 x0 x1 x2
      have HS' : Hid (LM w w.heap.size bw du dv r c (.slice ada n ca) (.slice adb m cb) (.slice adp n cp) n m f g (cntV (mvO f g c.toNat) r.toNat) 0 w36.drew) := HS.out.later ((Below.refl _ _).drew)
      clear HS
      have HS := HS'
      clear HS'
      have HX' : Hid (Ar w36.drew (.slice (some ⟨g1, 0, none⟩) r.toNat r.toNat) r.toNat (mvX f g c.toNat)) := HX.out.later ((Below.refl _ _).drew)
      clear HX
      have HX := HX'
      clear HX'
      obtain ⟨sm1, sm2⟩ := mt_small HMT.out hn
      go_region_held3 (fun w' => w'.cell? ⟨w.heap.size, 0, none⟩ = some (.int .i64 r) ∧ w'.cell? ⟨w.heap.size, 1, none⟩ = some (.int .i64 c) ∧ w'.cell? ⟨w.heap.size, 2, none⟩ = some (.slice ada n ca) ∧ w'.cell? ⟨bw, 0, none⟩ = some (.int .i64 r) ∧ w'.cell? ⟨bw, 1, none⟩ = some (.int .i64 c) ∧ w'.cell? ⟨bw, 2, none⟩ = some (.slice adp n cp))
        (exact HS.out.cells)
        (first
          | (go_at_call 13; refine (plain_any (.slice adb m cb) m g (by omega) _ HS.out.b).mono ?_; rintro e wz ⟨vq, rfl, hq, hOq, hb⟩; obtain ⟨adq, cq, bq, oq, rfl, -, -, -, -⟩ := id hq; have HQ : Hid (Ar wz (.slice adq m cq) m g) := hq; have HNq : Hid (Nb (.slice adq m cq) dv) := hOq.nb (World.block_lt_of_cell? _ _ HS.out.v.1); have HS' : Hid (LM w w.heap.size bw du dv r c (.slice ada n ca) (.slice adb m cb) (.slice adp n cp) n m f g (cntV (mvO f g c.toNat) r.toNat) 0 wz) := HS.out.later hb; clear HS; have HS := HS'; clear HS'; have HX' : Hid (Ar wz (.slice (some ⟨g1, 0, none⟩) r.toNat r.toNat) r.toNat (mvX f g c.toNat)) := HX.out.later hb; clear HX; have HX := HX'; clear HX'; clear hq hOq hb)
          | (go_at_call 35; refine (umatvec_mt r c adp n cp m (.slice adq m cq) f g dv 0 HMT.out hdim (by omega) (by omega) _ HS.out.p HQ.out HN.out.2.2.2 HNq.out HS.out.v).mono ?_; rintro e wy ⟨vr, rfl, hr, hU⟩; obtain ⟨adr, cr, br, or, rfl, -, -, -, -⟩ := id hr; have HR : Hid (Ar wy (.slice adr r.toNat cr) r.toNat (mvX f g c.toNat)) := hr; have HS' : Hid (LM w w.heap.size bw du dv r c (.slice ada n ca) (.slice adb m cb) (.slice adp n cp) n m f g (cntV (mvO f g c.toNat) r.toNat) (0 + (cntV (mvO f g c.toNat) r.toNat)) wy) := HS.out.unv hU (by omega) (by omega) (by omega) (by omega) (HN.out.1 dv (by omega)) (HN.out.2.1 dv (by omega)) (HN.out.2.2.2); clear HS; have HS := HS'; clear HS'; have HX' : Hid (Ar wy (.slice (some ⟨g1, 0, none⟩) r.toNat r.toNat) r.toNat (mvX f g c.toNat)) := HX.out.un (fun a n2 c2 e _ => by cases e; show g1 ≠ dv; omega) hU; clear HX; have HX := HX'; clear HX'; clear hr hU)
          | (go_at_call 21; refine (like_yes (.slice (some ⟨g1, 0, none⟩) r.toNat r.toNat) (.slice adr r.toNat cr) r.toNat (mvX f g c.toNat) (by omega) du dv (cntV (mvO f g c.toNat) r.toNat) _ HX.out HR.out HS.out.u (by have h := HS.out.v; rw [Int.zero_add] at h; exact h)).mono ?_; rintro e wx ⟨rfl, hb⟩; have HS' : Hid (LM w w.heap.size bw du dv r c (.slice ada n ca) (.slice adb m cb) (.slice adp n cp) n m f g (cntV (mvO f g c.toNat) r.toNat) (0 + (cntV (mvO f g c.toNat) r.toNat)) wx) := HS.out.later hb; clear HS; have HS := HS'; clear HS'; clear hb HX HR))
      clear hdim hbq
      have CCl := clear_any du (cntV (mvO f g c.toNat) r.toNat) _ HS.out.u.1 HS.out.u.2
      replace CCl : Hid (Calls _ _ _ _ _) := CCl
      go_wp2_with fail
      refine CCl.out.mono ?_
      rintro e w45 ⟨rfl, hU⟩
      have HS' : Hid (LM w w.heap.size bw du dv r c (.slice ada n ca) (.slice adb m cb) (.slice adp n cp) n m f g 0 (0 + (cntV (mvO f g c.toNat) r.toNat)) w45) := HS.out.unu hU (by omega) (by omega) (by omega) (by omega) (HN.out.1 du (by omega)) (HN.out.2.1 du (by omega)) (HN.out.2.2.1)
      clear HS hU CCl
      have HS := HS'
      clear HS'
      have z0 := HS.out.v.1
      have z1 := HS.out.v.2
      have HS' : Hid (LM w w.heap.size bw du dv r c (.slice ada n ca) (.slice adb m cb) (.slice adp n cp) n m f g 0 0 (w45.setCell ⟨dv, 0, none⟩ (.int .i64 0))) := HS.out.unv (Un.set z0 z1) (by omega) (by omega) (by omega) (by omega) (HN.out.1 dv (by omega)) (HN.out.2.1 dv (by omega)) (HN.out.2.2.2)
      go_upto_region 17 with fail
      clear z0 z1 HS
      have HS := HS'
      clear HS'
      generalize w45.setCell ⟨dv, 0, none⟩ (.int .i64 0) = w46 at *
      by_cases hdim : (m : Int) = r
      · have y0 := HS.out.y.c0
        have y1 := HS.out.y.c1
        have y2 := HS.out.y.c2
        have x0 := HS.out.x.c0
        have x1 := HS.out.x.c1
        have x2 := HS.out.x.c2
        have CMV := VecMat_mt r c ada n ca m (.slice adb m cb) f g du 0 HMT.out hdim (by omega) (by omega) _ HS.out.V HS.out.a HS.out.b (HN.out.2.1 du (by omega)) HS.out.u
        rw [Int.zero_add] at CMV
        replace CMV : Hid (Calls _ _ _ _ _) := CMV
        go_wp2_with fail
        refine CMV.out.mono ?_
        rintro e w50 ⟨g1, rfl, hX, hg1, hU⟩
        clear y0 y1 y2 x0 x1 x2
        have hg2 : dv < g1 := by have := World.block_lt_of_cell? _ _ HS.out.y.c0; dsimp only at this; omega
        have HS' : Hid (LM w w.heap.size bw du dv r c (.slice ada n ca) (.slice adb m cb) (.slice adp n cp) n m f g (cntV (vmO f g r.toNat c.toNat) c.toNat) 0 w50) := HS.out.unu hU (by omega) (by omega) (by omega) (by omega) (HN.out.1 du (by omega)) (HN.out.2.1 du (by omega)) (HN.out.2.2.1)
        clear HS
        have HS := HS'
        clear HS'
        have HX : Hid (Ar w50 (.slice (some ⟨g1, 0, none⟩) c.toNat c.toNat) c.toNat (vmX f g r.toNat c.toNat)) := hX
        clear hX hg1 hU CMV
        have y0 := HS.out.y.c0
        have y1 := HS.out.y.c1
        have y2 := HS.out.y.c2
        have x0 := HS.out.x.c0
        have x1 := HS.out.x.c1
        have x2 := HS.out.x.c2
        go_wp2_with fail
        refine (CQ.out _).mono ?_
        rintro e w51 ⟨rfl, hb⟩
        clear y0 y1 y2 x0 x1 x2
        have HS' : Hid (LM w w.heap.size bw du dv r c (.slice ada n ca) (.slice adb m cb) (.slice adp n cp) n m f g (cntV (vmO f g r.toNat c.toNat) c.toNat) 0 w51) := HS.out.later hb
        clear HS
        have HS := HS'
        clear HS'
        have HX' : Hid (Ar w51 (.slice (some ⟨g1, 0, none⟩) c.toNat c.toNat) c.toNat (vmX f g r.toNat c.toNat)) := HX.out.later hb
        clear HX
        have HX := HX'
        clear HX'
        clear hb
        have y0 := HS.out.y.c0
        have y1 := HS.out.y.c1
        have y2 := HS.out.y.c2
        have x0 := HS.out.x.c0
        have x1 := HS.out.x.c1
        have x2 := HS.out.x.c2
        have hbq : ((m : Int) == r) = true := by rw [hdim]; exact beq_self_eq_true _
        go_upto_region 20 with fail
        clear y0 y1 y2 x0 x1 x2
        have HS' : Hid (LM w w.heap.size bw du dv r c (.slice ada n ca) (.slice adb m cb) (.slice adp n cp) n m f g (cntV (vmO f g r.toNat c.toNat) c.toNat) 0 w51.drew) := HS.out.later ((Below.refl _ _).drew)
        clear HS
        have HS := HS'
        clear HS'
        have HX' : Hid (Ar w51.drew (.slice (some ⟨g1, 0, none⟩) c.toNat c.toNat) c.toNat (vmX f g r.toNat c.toNat)) := HX.out.later ((Below.refl _ _).drew)
        clear HX
        have HX := HX'
        clear HX'
        obtain ⟨sm1, sm2⟩ := mt_small HMT.out hn
        go_region_held3 (fun w' => w'.cell? ⟨w.heap.size, 0, none⟩ = some (.int .i64 r) ∧ w'.cell? ⟨w.heap.size, 1, none⟩ = some (.int .i64 c) ∧ w'.cell? ⟨w.heap.size, 2, none⟩ = some (.slice ada n ca) ∧ w'.cell? ⟨bw, 0, none⟩ = some (.int .i64 r) ∧ w'.cell? ⟨bw, 1, none⟩ = some (.int .i64 c) ∧ w'.cell? ⟨bw, 2, none⟩ = some (.slice adp n cp))
          (exact HS.out.cells)
          (first
            | (go_at_call 13; refine (plain_any (.slice adb m cb) m g (by omega) _ HS.out.b).mono ?_; rintro e wz ⟨vq, rfl, hq, hOq, hb⟩; obtain ⟨adq, cq, bq, oq, rfl, -, -, -, -⟩ := id hq; have HQ : Hid (Ar wz (.slice adq m cq) m g) := hq; have HNq : Hid (Nb (.slice adq m cq) dv) := hOq.nb (World.block_lt_of_cell? _ _ HS.out.v.1); have HS' : Hid (LM w w.heap.size bw du dv r c (.slice ada n ca) (.slice adb m cb) (.slice adp n cp) n m f g (cntV (vmO f g r.toNat c.toNat) c.toNat) 0 wz) := HS.out.later hb; clear HS; have HS := HS'; clear HS'; have HX' : Hid (Ar wz (.slice (some ⟨g1, 0, none⟩) c.toNat c.toNat) c.toNat (vmX f g r.toNat c.toNat)) := HX.out.later hb; clear HX; have HX := HX'; clear HX'; clear hq hOq hb)
            | (go_at_call 37; refine (uvecmat_mt r c adp n cp m (.slice adq m cq) f g dv 0 HMT.out hdim (by omega) (by omega) _ HS.out.p HQ.out HN.out.2.2.2 HNq.out HS.out.v).mono ?_; rintro e wy ⟨vr, rfl, hr, hU⟩; obtain ⟨adr, cr, br, or, rfl, -, -, -, -⟩ := id hr; have HR : Hid (Ar wy (.slice adr c.toNat cr) c.toNat (vmX f g r.toNat c.toNat)) := hr; have HS' : Hid (LM w w.heap.size bw du dv r c (.slice ada n ca) (.slice adb m cb) (.slice adp n cp) n m f g (cntV (vmO f g r.toNat c.toNat) c.toNat) (0 + (cntV (vmO f g r.toNat c.toNat) c.toNat)) wy) := HS.out.unv hU (by omega) (by omega) (by omega) (by omega) (HN.out.1 dv (by omega)) (HN.out.2.1 dv (by omega)) (HN.out.2.2.2); clear HS; have HS := HS'; clear HS'; have HX' : Hid (Ar wy (.slice (some ⟨g1, 0, none⟩) c.toNat c.toNat) c.toNat (vmX f g r.toNat c.toNat)) := HX.out.un (fun a n2 c2 e _ => by cases e; show g1 ≠ dv; omega) hU; clear HX; have HX := HX'; clear HX'; clear hr hU)
            | (go_at_call 21; refine (like_yes (.slice (some ⟨g1, 0, none⟩) c.toNat c.toNat) (.slice adr c.toNat cr) c.toNat (vmX f g r.toNat c.toNat) (by omega) du dv (cntV (vmO f g r.toNat c.toNat) c.toNat) _ HX.out HR.out HS.out.u (by have h := HS.out.v; rw [Int.zero_add] at h; exact h)).mono ?_; rintro e wx ⟨rfl, hb⟩; have HS' : Hid (LM w w.heap.size bw du dv r c (.slice ada n ca) (.slice adb m cb) (.slice adp n cp) n m f g (cntV (vmO f g r.toNat c.toNat) c.toNat) (0 + (cntV (vmO f g r.toNat c.toNat) c.toNat)) wx) := HS.out.later hb; clear HS; have HS := HS'; clear HS'; clear hb HX HR))
        go_wp2
        go_ret
        exact ⟨by first | rfl | simp, HS.out.B⟩
      · have y0 := HS.out.y.c0
        have y1 := HS.out.y.c1
        have y2 := HS.out.y.c2
        have x0 := HS.out.x.c0
        have x1 := HS.out.x.c1
        have x2 := HS.out.x.c2
        have CMV := VecMat_err (some ⟨du, 0, none⟩) r c r0 r1 c0 c1 ada adb n ca m cb (by omega) (by omega) w46 (fun x => hdim x.2)
        rw [show vmE r c n m = 40 by unfold vmE; rw [if_neg (by omega), if_neg (fun x => hdim x.2)]] at CMV
        replace CMV : Hid (Calls _ _ _ _ _) := CMV
        go_wp2_with fail
        refine CMV.out.mono ?_
        rintro e w60 ⟨rfl, hb⟩
        clear y0 y1 y2 x0 x1 x2
        have HS' : Hid (LM w w.heap.size bw du dv r c (.slice ada n ca) (.slice adb m cb) (.slice adp n cp) n m f g 0 0 w60) := HS.out.later hb
        clear HS
        have HS := HS'
        clear HS'
        clear hb CMV
        have y0 := HS.out.y.c0
        have y1 := HS.out.y.c1
        have y2 := HS.out.y.c2
        have x0 := HS.out.x.c0
        have x1 := HS.out.x.c1
        have x2 := HS.out.x.c2
        go_wp2_with fail
        refine (CQ.out _).mono ?_
        rintro e w61 ⟨rfl, hb⟩
        clear y0 y1 y2 x0 x1 x2
        have HS' : Hid (LM w w.heap.size bw du dv r c (.slice ada n ca) (.slice adb m cb) (.slice adp n cp) n m f g 0 0 w61) := HS.out.later hb
        clear HS
        have HS := HS'
        clear HS'
        clear hb
        have y0 := HS.out.y.c0
        have y1 := HS.out.y.c1
        have y2 := HS.out.y.c2
        have x0 := HS.out.x.c0
        have x1 := HS.out.x.c1
        have x2 := HS.out.x.c2
        have hbq : ((m : Int) == r) = false := beq_eq_false_iff_ne.2 hdim
        have CF := refused_yes (.slice none 0 0) none 0 40 du w61 rfl HS.out.u
        replace CF : Hid (Calls _ _ _ _ _) := CF
        go_wp2_with fail
        refine CF.out.mono ?_
        rintro e w62 ⟨rfl, hz⟩
        subst hz
        clear y0 y1 y2 x0 x1 x2
        clear CF
        go_wp2
        go_ret
        exact ⟨by first | rfl | simp, HS.out.B⟩
    · have hdim := hdim1
      have y0 := HS.out.y.c0
      have y1 := HS.out.y.c1
      have y2 := HS.out.y.c2
      have x0 := HS.out.x.c0
      have x1 := HS.out.x.c1
      have x2 := HS.out.x.c2
      have CMV := MatVec_err (some ⟨du, 0, none⟩) r c r0 r1 c0 c1 ada adb n ca m cb (by omega) (by omega) wz (fun x => hdim x.2)
      rw [show mvE r c n m = 40 by unfold mvE; rw [if_neg (by omega), if_neg (fun x => hdim x.2)]] at CMV
      replace CMV : Hid (Calls _ _ _ _ _) := CMV
      go_wp2_with fail
      refine CMV.out.mono ?_
      rintro e w70 ⟨rfl, hb⟩
      clear y0 y1 y2 x0 x1 x2
      have HS' : Hid (LM w w.heap.size bw du dv r c (.slice ada n ca) (.slice adb m cb) (.slice adp n cp) n m f g 0 0 w70) := HS.out.later hb
      clear HS
      have HS := HS'
      clear HS'
      clear hb CMV
      have y0 := HS.out.y.c0
      have y1 := HS.out.y.c1
      have y2 := HS.out.y.c2
      have x0 := HS.out.x.c0
      have x1 := HS.out.x.c1
      have x2 := HS.out.x.c2
      go_wp2_with fail
      refine (CQ.out _).mono ?_
      rintro e w71 ⟨rfl, hb⟩
      clear y0 y1 y2 x0 x1 x2
      have HS' : Hid (LM w w.heap.size bw du dv r c (.slice ada n ca) (.slice adb m cb) (.slice adp n cp) n m f g 0 0 w71) := HS.out.later hb
      clear HS
      have HS := HS'
      clear HS'
      clear hb
      have y0 := HS.out.y.c0
      have y1 := HS.out.y.c1
      have y2 := HS.out.y.c2
      have x0 := HS.out.x.c0
      have x1 := HS.out.x.c1
      have x2 := HS.out.x.c2
      have hbq : ((m : Int) == c) = false := beq_eq_false_iff_ne.2 hdim
      have CF := refused_yes (.slice none 0 0) none 0 40 du w71 rfl HS.out.u
      replace CF : Hid (Calls _ _ _ _ _) := CF
      go_wp2_with fail
      refine CF.out.mono ?_
      rintro e w72 ⟨rfl, hz⟩
      subst hz
      clear y0 y1 y2 x0 x1 x2
      clear CF
      clear hdim hbq
      have CCl := clear_any du 0 _ HS.out.u.1 HS.out.u.2
      replace CCl : Hid (Calls _ _ _ _ _) := CCl
      go_wp2_with fail
      refine CCl.out.mono ?_
      rintro e w80 ⟨rfl, hU⟩
      have HS' : Hid (LM w w.heap.size bw du dv r c (.slice ada n ca) (.slice adb m cb) (.slice adp n cp) n m f g 0 0 w80) := HS.out.unu hU (by omega) (by omega) (by omega) (by omega) (HN.out.1 du (by omega)) (HN.out.2.1 du (by omega)) (HN.out.2.2.1)
      clear HS hU CCl
      have HS := HS'
      clear HS'
      have z0 := HS.out.v.1
      have z1 := HS.out.v.2
      have HS' : Hid (LM w w.heap.size bw du dv r c (.slice ada n ca) (.slice adb m cb) (.slice adp n cp) n m f g 0 0 (w80.setCell ⟨dv, 0, none⟩ (.int .i64 0))) := HS.out.unv (Un.set z0 z1) (by omega) (by omega) (by omega) (by omega) (HN.out.1 dv (by omega)) (HN.out.2.1 dv (by omega)) (HN.out.2.2.2)
      go_upto_region 17 with fail
      clear z0 z1 HS
      have HS := HS'
      clear HS'
      generalize w80.setCell ⟨dv, 0, none⟩ (.int .i64 0) = w81 at *
      by_cases hdim : (m : Int) = r
      · have y0 := HS.out.y.c0
        have y1 := HS.out.y.c1
        have y2 := HS.out.y.c2
        have x0 := HS.out.x.c0
        have x1 := HS.out.x.c1
        have x2 := HS.out.x.c2
        have CMV := VecMat_mt r c ada n ca m (.slice adb m cb) f g du 0 HMT.out hdim (by omega) (by omega) _ HS.out.V HS.out.a HS.out.b (HN.out.2.1 du (by omega)) HS.out.u
        rw [Int.zero_add] at CMV
        replace CMV : Hid (Calls _ _ _ _ _) := CMV
        go_wp2_with fail
        refine CMV.out.mono ?_
        rintro e w85 ⟨g1, rfl, hX, hg1, hU⟩
        clear y0 y1 y2 x0 x1 x2
        have hg2 : dv < g1 := by have := World.block_lt_of_cell? _ _ HS.out.y.c0; dsimp only at this; omega
        have HS' : Hid (LM w w.heap.size bw du dv r c (.slice ada n ca) (.slice adb m cb) (.slice adp n cp) n m f g (cntV (vmO f g r.toNat c.toNat) c.toNat) 0 w85) := HS.out.unu hU (by omega) (by omega) (by omega) (by omega) (HN.out.1 du (by omega)) (HN.out.2.1 du (by omega)) (HN.out.2.2.1)
        clear HS
        have HS := HS'
        clear HS'
        have HX : Hid (Ar w85 (.slice (some ⟨g1, 0, none⟩) c.toNat c.toNat) c.toNat (vmX f g r.toNat c.toNat)) := hX
        clear hX hg1 hU CMV
        have y0 := HS.out.y.c0
        have y1 := HS.out.y.c1
        have y2 := HS.out.y.c2
        have x0 := HS.out.x.c0
        have x1 := HS.out.x.c1
        have x2 := HS.out.x.c2
        go_wp2_with fail
        refine (CQ.out _).mono ?_
        rintro e w86 ⟨rfl, hb⟩
        clear y0 y1 y2 x0 x1 x2
        have HS' : Hid (LM w w.heap.size bw du dv r c (.slice ada n ca) (.slice adb m cb) (.slice adp n cp) n m f g (cntV (vmO f g r.toNat c.toNat) c.toNat) 0 w86) := HS.out.later hb
        clear HS
        have HS := HS'
        clear HS'
        have HX' : Hid (Ar w86 (.slice (some ⟨g1, 0, none⟩) c.toNat c.toNat) c.toNat (vmX f g r.toNat c.toNat)) := HX.out.later hb
        clear HX
        have HX := HX'
        clear HX'
        clear hb
        have y0 := HS.out.y.c0
        have y1 := HS.out.y.c1
        have y2 := HS.out.y.c2
        have x0 := HS.out.x.c0
        have x1 := HS.out.x.c1
        have x2 := HS.out.x.c2
        have hbq : ((m : Int) == r) = true := by rw [hdim]; exact beq_self_eq_true _
        go_upto_region 20 with fail
        clear y0 y1 y2 x0 x1 x2
        have HS' : Hid (LM w w.heap.size bw du dv r c (.slice ada n ca) (.slice adb m cb) (.slice adp n cp) n m f g (cntV (vmO f g r.toNat c.toNat) c.toNat) 0 w86.drew) := HS.out.later ((Below.refl _ _).drew)
        clear HS
        have HS := HS'
        clear HS'
        have HX' : Hid (Ar w86.drew (.slice (some ⟨g1, 0, none⟩) c.toNat c.toNat) c.toNat (vmX f g r.toNat c.toNat)) := HX.out.later ((Below.refl _ _).drew)
        clear HX
        have HX := HX'
        clear HX'
        obtain ⟨sm1, sm2⟩ := mt_small HMT.out hn
        go_region_held3 (fun w' => w'.cell? ⟨w.heap.size, 0, none⟩ = some (.int .i64 r) ∧ w'.cell? ⟨w.heap.size, 1, none⟩ = some (.int .i64 c) ∧ w'.cell? ⟨w.heap.size, 2, none⟩ = some (.slice ada n ca) ∧ w'.cell? ⟨bw, 0, none⟩ = some (.int .i64 r) ∧ w'.cell? ⟨bw, 1, none⟩ = some (.int .i64 c) ∧ w'.cell? ⟨bw, 2, none⟩ = some (.slice adp n cp))
          (exact HS.out.cells)
          (first
            | (go_at_call 13; refine (plain_any (.slice adb m cb) m g (by omega) _ HS.out.b).mono ?_; rintro e wz ⟨vq, rfl, hq, hOq, hb⟩; obtain ⟨adq, cq, bq, oq, rfl, -, -, -, -⟩ := id hq; have HQ : Hid (Ar wz (.slice adq m cq) m g) := hq; have HNq : Hid (Nb (.slice adq m cq) dv) := hOq.nb (World.block_lt_of_cell? _ _ HS.out.v.1); have HS' : Hid (LM w w.heap.size bw du dv r c (.slice ada n ca) (.slice adb m cb) (.slice adp n cp) n m f g (cntV (vmO f g r.toNat c.toNat) c.toNat) 0 wz) := HS.out.later hb; clear HS; have HS := HS'; clear HS'; have HX' : Hid (Ar wz (.slice (some ⟨g1, 0, none⟩) c.toNat c.toNat) c.toNat (vmX f g r.toNat c.toNat)) := HX.out.later hb; clear HX; have HX := HX'; clear HX'; clear hq hOq hb)
            | (go_at_call 37; refine (uvecmat_mt r c adp n cp m (.slice adq m cq) f g dv 0 HMT.out hdim (by omega) (by omega) _ HS.out.p HQ.out HN.out.2.2.2 HNq.out HS.out.v).mono ?_; rintro e wy ⟨vr, rfl, hr, hU⟩; obtain ⟨adr, cr, br, or, rfl, -, -, -, -⟩ := id hr; have HR : Hid (Ar wy (.slice adr c.toNat cr) c.toNat (vmX f g r.toNat c.toNat)) := hr; have HS' : Hid (LM w w.heap.size bw du dv r c (.slice ada n ca) (.slice adb m cb) (.slice adp n cp) n m f g (cntV (vmO f g r.toNat c.toNat) c.toNat) (0 + (cntV (vmO f g r.toNat c.toNat) c.toNat)) wy) := HS.out.unv hU (by omega) (by omega) (by omega) (by omega) (HN.out.1 dv (by omega)) (HN.out.2.1 dv (by omega)) (HN.out.2.2.2); clear HS; have HS := HS'; clear HS'; have HX' : Hid (Ar wy (.slice (some ⟨g1, 0, none⟩) c.toNat c.toNat) c.toNat (vmX f g r.toNat c.toNat)) := HX.out.un (fun a n2 c2 e _ => by cases e; show g1 ≠ dv; omega) hU; clear HX; have HX := HX'; clear HX'; clear hr hU)
            | (go_at_call 21; refine (like_yes (.slice (some ⟨g1, 0, none⟩) c.toNat c.toNat) (.slice adr c.toNat cr) c.toNat (vmX f g r.toNat c.toNat) (by omega) du dv (cntV (vmO f g r.toNat c.toNat) c.toNat) _ HX.out HR.out HS.out.u (by have h := HS.out.v; rw [Int.zero_add] at h; exact h)).mono ?_; rintro e wx ⟨rfl, hb⟩; have HS' : Hid (LM w w.heap.size bw du dv r c (.slice ada n ca) (.slice adb m cb) (.slice adp n cp) n m f g (cntV (vmO f g r.toNat c.toNat) c.toNat) (0 + (cntV (vmO f g r.toNat c.toNat) c.toNat)) wx) := HS.out.later hb; clear HS; have HS := HS'; clear HS'; clear hb HX HR))
        go_wp2
        go_ret
        exact ⟨by first | rfl | simp, HS.out.B⟩
      · have y0 := HS.out.y.c0
        have y1 := HS.out.y.c1
        have y2 := HS.out.y.c2
        have x0 := HS.out.x.c0
        have x1 := HS.out.x.c1
        have x2 := HS.out.x.c2
        have CMV := VecMat_err (some ⟨du, 0, none⟩) r c r0 r1 c0 c1 ada adb n ca m cb (by omega) (by omega) w81 (fun x => hdim x.2)
        rw [show vmE r c n m = 40 by unfold vmE; rw [if_neg (by omega), if_neg (fun x => hdim x.2)]] at CMV
        replace CMV : Hid (Calls _ _ _ _ _) := CMV
        go_wp2_with fail
        refine CMV.out.mono ?_
        rintro e w95 ⟨rfl, hb⟩
        clear y0 y1 y2 x0 x1 x2
        have HS' : Hid (LM w w.heap.size bw du dv r c (.slice ada n ca) (.slice adb m cb) (.slice adp n cp) n m f g 0 0 w95) := HS.out.later hb
        clear HS
        have HS := HS'
        clear HS'
        clear hb CMV
        have y0 := HS.out.y.c0
        have y1 := HS.out.y.c1
        have y2 := HS.out.y.c2
        have x0 := HS.out.x.c0
        have x1 := HS.out.x.c1
        have x2 := HS.out.x.c2
        go_wp2_with fail
        refine (CQ.out _).mono ?_
        rintro e w96 ⟨rfl, hb⟩
        clear y0 y1 y2 x0 x1 x2
        have HS' : Hid (LM w w.heap.size bw du dv r c (.slice ada n ca) (.slice adb m cb) (.slice adp n cp) n m f g 0 0 w96) := HS.out.later hb
        clear HS
        have HS := HS'
        clear HS'
        clear hb
        have y0 := HS.out.y.c0
        have y1 := HS.out.y.c1
        have y2 := HS.out.y.c2
        have x0 := HS.out.x.c0
        have x1 := HS.out.x.c1
        have x2 := HS.out.x.c2
        have hbq : ((m : Int) == r) = false := beq_eq_false_iff_ne.2 hdim
        have CF := refused_yes (.slice none 0 0) none 0 40 du w96 rfl HS.out.u
        replace CF : Hid (Calls _ _ _ _ _) := CF
        go_wp2_with fail
        refine CF.out.mono ?_
        rintro e w97 ⟨rfl, hz⟩
        subst hz
        clear y0 y1 y2 x0 x1 x2
        clear CF
        go_wp2
        go_ret
        exact ⟨by first | rfl | simp, HS.out.B⟩
end Go.Proofs.YtldnnjcfihjkdaaDoor
