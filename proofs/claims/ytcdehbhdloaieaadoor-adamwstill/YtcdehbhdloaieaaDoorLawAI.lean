/-
  AdamwStill: for every inner, parameters and number of steps the law regattalaw09.AdamwStill returns true: from a state of noughts a gradient of nought, without decay, moves nothing.
-/
import Derived.Test.YtcdehbhdloaieaaDoorAAwake
import Derived.Test.YtcdehbhdloaieaaDoorAInner
import Derived.Deep.QuietTactic
import Derived.BigQuiet
set_option linter.unusedVariables false
set_option linter.unusedSimpArgs false
namespace Go.Proofs.YtcdehbhdloaieaaDoor
open Go.RowKit

theorem ar_congr9 {w : World} {v : Value} {n : Nat} {f g : Nat → Int} (h : Ar w v n f) (e : ∀ k, k < n → f k = g k) : Ar w v n g := by
  obtain ⟨ad, cap, b, o, h0, h1, h2, h3, h4⟩ := h
  exact ⟨ad, cap, b, o, h0, h1, h2, h3, fun k hk => by rw [← e k hk]; exact h4 k hk⟩
theorem ar_in9 {w : World} {v : Value} {n : Nat} {f : Nat → Int} (h : Ar w v n f) (k : Nat) (hk : k < n) : -9223372036854775808 ≤ f k ∧ f k ≤ 9223372036854775807 := by
  obtain ⟨_, _, _, _, _, _, _, _, h4⟩ := h
  exact (h4 k hk).2
theorem ar_news9 {w : World} {b o m cap : Nat} {f : Nat → Int} (h : Ar w (.slice (some ⟨b, o, none⟩) m cap) m f) : ∀ j u, (il f m)[j]? = some u → w.cell? ((⟨b, o, none⟩ : Addr).add j) = some u := by
  intro j u hj
  have hjm : j < m := by have := (List.getElem?_eq_some_iff.1 hj).1; rw [il_len] at this; exact this
  rw [il_get f m j hjm] at hj
  have e : (⟨b, o, none⟩ : Addr).add j = ⟨b, o + j, none⟩ := by simp [Addr.add]
  obtain ⟨b', o', e', hc, -, -⟩ := h.at j hjm
  cases e'
  rw [e, hc]
  exact hj
theorem il_one9 (f : Nat → Int) (m : Nat) : ∀ u ∈ il f m, u.oneCell' = true := by
  intro u hu
  unfold il at hu
  obtain ⟨k, _, rfl⟩ := List.mem_map.1 hu
  rfl
/-- Where the law is between two steps. -/
structure I9 (w : World) (h0 bs : Nat) (Sh : World → Prop) (vM vV vq : Value) (n : Nat) (P : Nat → Int) (k : Int) (W : World) : Prop where
  B : Below w.heap.size w W
  X : Sh W
  S : Y3 bs vM vV (.int .i64 k) W
  M : Ar W vM n (fun _ => 0)
  V : Ar W vV n (fun _ => 0)
  Q : Ar W vq n P
theorem I9.later {w : World} {h0 bs : Nat} {Sh : World → Prop} {vM vV vq : Value} {n : Nat} {P : Nat → Int} {k : Int} {W W' : World} (h : I9 w h0 bs Sh vM vV vq n P k W) (hb : Below W.heap.size W W') (hS : Sh W') : I9 w h0 bs Sh vM vV vq n P k W' := ⟨bchain h.B hb, hS, h.S.later hb, h.M.later hb, h.V.later hb, h.Q.later hb⟩
theorem Q8.far9i {b : Nat} {x0 x1 x2 x3 x4 x5 x6 x7 : Value} {w : World} (h : Q8 b x0 x1 x2 x3 x4 x5 x6 x7 w) (p : Addr) (u : Value) (hp : p.block ≠ b) : Q8 b x0 x1 x2 x3 x4 x5 x6 x7 (w.setCell p u) := h.blk (Below.heap_setCell _ _ _ _ (fun e => hp e.symm))
/-- A step from noughts by noughts. -/
theorem still_step9 (B W : Int) (vD : Value) (nD : Nat) (at' fa : Nat → Int) (b1 b2 ep cl k : Int) (vM vV vq vg : Value) (n : Nat) (P : Nat → Int) (w : World) (hI : InR9 B W nD at' fa b1 b2 ep 0 cl) (hbd : bd9 B ep 0 cl) (k0 : 0 ≤ k) (k1 : k < 1000) (hn : n ≤ 65536) (hD : Drp w vD nD at' fa) (hM : Ar w vM n (fun _ => 0)) (hV : Ar w vV n (fun _ => 0)) (hP : Ar w vq n P) (hG : Ar w vg n (fun _ => 0)) (hT : TabAt w) :
    Calls Tryd.prog 12 #[.pointer none, .agg #[.int .i64 B, .int .i64 W, vD, .int .i64 b1, .int .i64 b2, .int .i64 ep, .int .i64 0, .int .i64 cl], .agg #[vM, vV, .int .i64 k], vq, vg] w fun e w' => ∃ g1 g2 g3 : Nat, e = .returned (.tuple #[.agg #[.slice (some ⟨g1, 0, none⟩) n n, .slice (some ⟨g2, 0, none⟩) n n, .int .i64 (k + 1)], .slice (some ⟨g3, 0, none⟩) n n, .int .i64 0]) ∧ V9 n g1 g2 g3 (fun _ => 0) (fun _ => 0) P w' ∧ (w.heap.size ≤ g1 ∧ w.heap.size ≤ g2 ∧ w.heap.size ≤ g3) ∧ Below w.heap.size w w' := by
  refine (step9_ok B W vD nD at' fa b1 b2 ep 0 cl k vM vV vq vg n _ _ P _ none 0 w hI hbd k0 (by omega) hn (by omega) (by omega) hD hM hV hP hG (nv_none _) (nv_none _) (nv_none _) (nv_none _) (Or.inl rfl) hT).mono ?_
  rintro e w' ⟨g1, g2, g3, he, q1, q2, q3, q4, q5⟩
  rw [clip_nought9] at q1 q2 q3
  obtain ⟨t, ht⟩ : ∃ t : Nat, (k + 1).toNat = t + 1 := ⟨k.toNat, by omega⟩
  have p1 := pw_lt9 b1 hI.2.1.1 hI.2.1.2 t
  have p2 := pw_lt9 b2 hI.2.2.1.1 hI.2.2.1.2 t
  have hs := fun (i : Nat) (hi : i < n) => still9 (stpV B W nD at' fa b1 b2 ep 0 (k + 1)) rfl (by show 1 ≤ 4294967296 - pwN b1 (k + 1).toNat; rw [ht]; omega) (by show 1 ≤ 4294967296 - pwN b2 (k + 1).toNat; rw [ht]; omega) hI.2.2.2.1 hbd.2.1 (P i) (ar_in9 hP i hi).1 (ar_in9 hP i hi).2
  refine ⟨g1, g2, g3, he, ⟨ar_congr9 q1 (fun i hi => (hs i hi).1), ar_congr9 q2 (fun i hi => (hs i hi).2.1), ar_congr9 q3 (fun i hi => (hs i hi).2.2)⟩, q4, ?_⟩
  rcases q5 with ⟨-, q5⟩ | ⟨d, q5, -⟩
  · exact q5
  · cases q5
set_option maxRecDepth 100000 in
set_option maxHeartbeats 32000000 in
theorem adamwStill_any (B W : Int) (vD : Value) (nD : Nat) (at' fa : Nat → Int) (b1 b2 ep dc cl : Int) (vp : Value) (n : Nat) (P : Nat → Int) (N : Int) (w : World) (hD : Drp w vD nD at' fa) (hbd : bd9 B ep dc cl) (hP : Ar w vp n P) (hT : TabAt w) :
    Calls Tryd.prog 4 #[.agg #[.int .i64 B, .int .i64 W, vD, .int .i64 b1, .int .i64 b2, .int .i64 ep, .int .i64 dc, .int .i64 cl], vp, .int .i64 N] w fun e w' => e = .returned (.bool true) ∧ Below w.heap.size w w' := by
  have HAll : Hid (Drp w vD nD at' fa ∧ bd9 B ep 0 cl ∧ Ar w vp n P ∧ TabAt w) := ⟨hD, ⟨hbd.1, hbd.2.1, by omega, hbd.2.2.2⟩, hP, hT⟩
  have CA : Hid (∀ W' : World, Below w.heap.size w W' → Calls Tryd.prog 7 #[] W' fun e w' => e = .returned (.bool true) ∧ Below W'.heap.size W' w') := fun W' hb => awake9_any W' (hT.later hb)
  have CI : Hid (nD ≤ 1000 → ∀ W' : World, Below w.heap.size w W' → Calls Tryd.prog 8 #[.agg #[.int .i64 B, .int .i64 W, vD, .int .i64 b1, .int .i64 b2, .int .i64 ep, .int .i64 0, .int .i64 cl]] W' fun e w' => ∃ v', e = .returned (.agg #[.int .i64 B, .int .i64 W, v', .int .i64 b1, .int .i64 b2, .int .i64 ep, .int .i64 0, .int .i64 cl]) ∧ Drp w' v' nD at' fa ∧ Below W'.heap.size W' w') := fun hn W' hb => inner9_any B W _ nD at' fa b1 b2 ep 0 cl hn W' (hD.later hb)
  obtain ⟨adr, cap, bD, oD, rfl, d1, d2, -, -⟩ := hD
  obtain ⟨adp, capp, bp, op, rfl, p1, p2, -, -⟩ := hP
  unfold maxLen at d2 p2
  clear hT hbd
  obtain ⟨w1, hw1⟩ : ∃ w1, w1 = w.alloc (.cells #[.int .i64 B, .int .i64 W, .slice adr nD cap, .int .i64 b1, .int .i64 b2, .int .i64 ep, .int .i64 dc, .int .i64 cl] 27) := ⟨_, rfl⟩
  have HB1 : Hid (Below w.heap.size w w1) := by rw [hw1]; exact bel1 _ _
  have HX : Q8 w.heap.size (.int .i64 B) (.int .i64 W) (.slice adr nD cap) (.int .i64 b1) (.int .i64 b2) (.int .i64 ep) (.int .i64 dc) (.int .i64 cl) w1 := by rw [hw1]; exact Q8.new w _ _ _ _ _ _ _ _ _
  have hf6 : w1.frozen? ⟨w.heap.size, 6, none⟩ = false := by rw [hw1]; simp [go_sem]
  go_enter Tryd.func4, Tryd.ntmps4
  go_upto_region 1 with fail
  rw [← hw1]
  clear hw1
  go_wp2_with fail
  refine (CA.out _ HB1.out).mono ?_
  rintro e w2 ⟨rfl, hb⟩
  have hb2 : Below w.heap.size w w2 := bchain HB1.out hb
  replace hf6 := frozen_later hb HX.c6 hf6
  replace HX := HX.later hb
  clear hb CA HB1
  have x6 := HX.c6
  obtain ⟨w3, hw3⟩ : ∃ w3, w3 = w2.setCell ⟨w.heap.size, 6, none⟩ (.int .i64 0) := ⟨_, rfl⟩
  have HB3 : Hid (Below w.heap.size w w3) := by rw [hw3]; exact hb2.setCell (Nat.le_refl _) _
  have HX3 : Q8 w.heap.size (.int .i64 B) (.int .i64 W) (.slice adr nD cap) (.int .i64 b1) (.int .i64 b2) (.int .i64 ep) (.int .i64 0) (.int .i64 cl) w3 := by
    rw [hw3]
    exact ⟨(World.cell?_setCell_other _ _ _ _ (by simp)).trans HX.c0, (World.cell?_setCell_other _ _ _ _ (by simp)).trans HX.c1, (World.cell?_setCell_other _ _ _ _ (by simp)).trans HX.c2, (World.cell?_setCell_other _ _ _ _ (by simp)).trans HX.c3, (World.cell?_setCell_other _ _ _ _ (by simp)).trans HX.c4, (World.cell?_setCell_other _ _ _ _ (by simp)).trans HX.c5, World.cell?_setCell_same' _ _ _ (by rw [HX.c6]; rfl), (World.cell?_setCell_other _ _ _ _ (by simp)).trans HX.c7⟩
  go_upto_region 4 with fail
  rw [← hw3]
  clear hw3 x6 hf6 hb2 HX
  obtain ⟨h0, hh0⟩ : ∃ h0, w.heap.size = h0 := ⟨_, rfl⟩
  have hh0' : Hid (w.heap.size = h0) := hh0
  rw [hh0] at HX3
  try simp only [hh0]
  clear hh0
  have HX := HX3
  clear HX3
  have x0 := HX.c0
  have x1 := HX.c1
  have x2 := HX.c2
  have x3 := HX.c3
  have x4 := HX.c4
  have x5 := HX.c5
  have x6 := HX.c6
  have x7 := HX.c7
  by_cases hnD : 40 < nD
  · have hnI : (40 : Int) < (nD : Int) := by omega
    go_wp2
    go_ret
    exact ⟨rfl, HB3.out⟩
  have hnI : ¬ (40 : Int) < (nD : Int) := by omega
  go_wp2_with fail
  refine (CI.out (by omega) _ HB3.out).mono ?_
  rintro e w4 ⟨v4, rfl, hD4, hb⟩
  obtain ⟨ad4, ca4, b4, o4, rfl, -, -, -, -⟩ := id hD4
  have HB4 : Hid (Below w.heap.size w w4) := bchain HB3.out hb
  replace HX := HX.later hb
  clear hb HB3 CI x0 x1 x2 x3 x4 x5 x6 x7
  go_wp2_with fail
  refine (refInner_any B W _ nD at' fa b1 b2 ep 0 cl _ hD4).mono ?_
  rintro e w5 ⟨hTl, hb⟩
  have HB5 : Hid (Below w.heap.size w w5) := bchain HB4.out hb
  replace HX := HX.later hb
  clear hb HB4 hD4
  by_cases hI : InR9 B W nD at' fa b1 b2 ep 0 cl
  · have e0 := hTl.yes hI
    subst e0
    have HI : Hid (InR9 B W nD at' fa b1 b2 ep 0 cl) := hI
    clear hTl hI
    by_cases hn : 30 < n
    · have hnp : (30 : Int) < (n : Int) := by omega
      go_wp2
      go_ret
      exact ⟨rfl, HB5.out⟩
    have hnp : ¬ (30 : Int) < (n : Int) := by omega
    by_cases hN0 : N < 0
    · go_wp2
      go_ret
      exact ⟨rfl, HB5.out⟩
    by_cases hN1 : 20 < N
    · go_wp2
      go_ret
      exact ⟨rfl, HB5.out⟩
    obtain ⟨m, rfl⟩ : ∃ m : Nat, N = (m : Int) := ⟨N.toNat, by omega⟩
    have hm : m ≤ 20 := by omega
    go_wp2_with fail
    refine (begin9_ok n (by omega) _).mono ?_
    rintro e w6' ⟨m1, m2, rfl, hNo⟩
    obtain ⟨w6, hw6⟩ : ∃ w6, w6 = w6'.alloc (.cells #[.slice (some ⟨m1, 0, none⟩) n n, .slice (some ⟨m2, 0, none⟩) n n, .int .i64 0] 38) := ⟨_, rfl⟩
    have hb6 : Below w6'.heap.size w6' w6 := by rw [hw6]; exact bel1 _ _
    have HB6 : Hid (Below w.heap.size w w6) := bchain (bchain HB5.out hNo.b) hb6
    have HX6 : Hid (Q8 h0 (.int .i64 B) (.int .i64 W) (.slice adr nD cap) (.int .i64 b1) (.int .i64 b2) (.int .i64 ep) (.int .i64 0) (.int .i64 cl) w6) := (HX.later hNo.b).later hb6
    have HS6 : Hid (Y3 w6'.heap.size (.slice (some ⟨m1, 0, none⟩) n n) (.slice (some ⟨m2, 0, none⟩) n n) (.int .i64 0) w6) := by rw [hw6]; exact Y3.new _ _ _ _ _
    have HM6 : Hid (Ar w6 (.slice (some ⟨m1, 0, none⟩) n n) n (fun _ => 0) ∧ Ar w6 (.slice (some ⟨m2, 0, none⟩) n n) n (fun _ => 0)) := ⟨(no9_ar hNo (by omega)).1.later hb6, (no9_ar hNo (by omega)).2.later hb6⟩
    have hbs : w.heap.size ≤ w6'.heap.size := (bchain HB5.out hNo.b).size
    have hbh : h0 < w6'.heap.size := (HX.later hNo.b).lt
    clear hNo hb6 HB5 HX
    go_upto_region 9 with fail
    rw [← hw6]
    clear hw6
    generalize w6'.heap.size = bs at *
    go_cut [9] (fun s9 wc => ∃ (aq : Option Addr) (cq : Nat), s9 = .slice aq n cq ∧ Hid (Ar wc (.slice aq n cq) n P) ∧ Hid (Below w6.heap.size w6 wc))
    case first =>
      by_cases hn0 : n = 0
      · subst hn0
        have hl : ∀ (a : Addr) (U : World), Sem.run Tryd.prog (loadCellsFrom a 0 0 #[]) U = .ok #[] U := fun _ _ => rfl
        have hst : ∀ (a : Addr) (U : World), Sem.run Tryd.prog (storeCells a [] ) U = .ok () U := fun _ _ => rfl
        have HNn : Hid (Ar (w6.alloc (.cells #[] 22)) (.slice (some ⟨w6.heap.size, 0, none⟩) 0 0) 0 P) := ⟨_, 0, w6.heap.size, 0, rfl, Nat.le_refl _, by unfold maxLen; omega, fun h => absurd h (by omega), fun k hk => absurd hk (by omega)⟩
        have HNb : Hid (Below w6.heap.size w6 (w6.alloc (.cells #[] 22))) := bel1 _ _
        cases adp
        · go_wp2_with fail
          go_meet
          exact ⟨_, _, rfl, HNn, HNb⟩
        · go_wp2_with fail
          go_meet
          exact ⟨_, _, rfl, HNn, HNb⟩
      · obtain ⟨i0, hti, hy0, hy1, hy2⟩ := info_parts dinfo_fx
        obtain ⟨b', o', ea, -, -, -⟩ := HAll.out.2.2.1.at 0 (by omega)
        subst ea
        have HO : (w6.alloc (.cells #[] 22)).ownsRow w6.heap.size 22 1 (.slice (some ⟨w6.heap.size, 0, none⟩) 0 0) 0 [] := World.ownsRow_made w6 #[] 0 (Nat.le_refl _) (by unfold maxLen; omega) rfl
        have hNw := ar_news9 (HAll.out.2.2.1.later (bchain HB6.out (bel1 w6 (.cells #[] 22))))
        go_wp2_with (at_builtin; refine wpList_append_own _ rfl _ _ 36 rfl w6.heap.size 22 i0 (.int .i64 0) 1 8 Tryd.underlying36 hti hy0 hy1 hy2 rfl (by decide) _ _ _ rfl HO ⟨b', o', none⟩ n capp (il P n) rfl (by rw [il_len, Nat.mul_one]) hNw (il_one9 P n) (by unfold maxLen; omega) (by omega) (by rw [World.size_alloc]; omega) ?_; intro v' w7 hown' hgrow hnil; have HA7 : Hid (Ar w7 v' n P) := (by rw [Nat.zero_add, List.nil_append] at hown'; exact (ar_of_own hown' (fun k hk => ar_in9 HAll.out.2.2.1 k hk)).1); have HW7 : Hid (Below w6.heap.size w6 w7) := (bel1 w6 _).grown hgrow (by rw [World.size_alloc]; omega) (fun k hk => (HO.lt k hk).1); clear hown' hgrow hnil HO hNw; obtain ⟨aq, cq, bq, oq, rfl, -, -, -, -⟩ := id HA7.out)
        go_meet
        exact ⟨_, _, rfl, HA7, HW7⟩
    case rest =>
      rename World => w7
      obtain ⟨aq, cq, rfl, HQ7, HW7⟩ := hcut
      have HL0 : Hid (I9 w h0 bs (fun W' => Q8 h0 (.int .i64 B) (.int .i64 W) (.slice adr nD cap) (.int .i64 b1) (.int .i64 b2) (.int .i64 ep) (.int .i64 0) (.int .i64 cl) W') (.slice (some ⟨m1, 0, none⟩) n n) (.slice (some ⟨m2, 0, none⟩) n n) (.slice aq n cq) n P ((0 : Nat) : Int) w7) := ⟨bchain HB6.out HW7.out, HX6.out.later HW7.out, HS6.out.later HW7.out, HM6.out.1.later HW7.out, HM6.out.2.later HW7.out, HQ7.out⟩
      clear HB6 HX6 HS6 HM6 HQ7 HW7
      go_wp2
      go_loopw [8, 9, 50] (fun s8 s9 s50 wr => ∃ (k : Nat) (aM aV aq : Option Addr) (kM kV kq : Nat), k ≤ m ∧ s8 = .int .i64 0 ∧ s9 = .slice aq n kq ∧ s50 = .int .i64 (k : Int) ∧ Hid (I9 w h0 bs (fun W' => Q8 h0 (.int .i64 B) (.int .i64 W) (.slice adr nD cap) (.int .i64 b1) (.int .i64 b2) (.int .i64 ep) (.int .i64 0) (.int .i64 cl) W') (.slice aM n kM) (.slice aV n kV) (.slice aq n kq) n P (k : Int) wr)) (fun _ _ s50 _ => m - (intOf s50).toNat)
      case atStart => exact ⟨0, _, _, _, _, _, _, by omega, rfl, rfl, rfl, HL0⟩
      case round =>
        clear HL0
        obtain ⟨k, aM, aV, aq, kM, kV, kq, hk, rfl, rfl, rfl, HL⟩ := hrel
        by_cases hlt : k < m
        · have hkI : (k : Int) < (m : Int) := by omega
          have hmk := make_fx n (by omega)
          go_upto_region 12 with fail
          have hbD : Below wr.heap.size wr wr.drew := (Below.refl _ _).drew
          have HL' : Hid (I9 w h0 bs (fun W' => Q8 h0 (.int .i64 B) (.int .i64 W) (.slice adr nD cap) (.int .i64 b1) (.int .i64 b2) (.int .i64 ep) (.int .i64 0) (.int .i64 cl) W') (.slice aM n kM) (.slice aV n kV) (.slice aq n kq) n P (k : Int) wr.drew) := HL.out.later hbD (HL.out.X.later hbD)
          have hbn : bs ≠ h0 := by omega
          refine wp_region_held_drew (S := fun _ => True) (by kernel_rfl) trivial (fun HS => ?_)
          clear hbD HL
          have HL := HL'
          clear HL'
          generalize wr.drew = q0 at *
          refine wpAnyH_take (i := 2) (v := ?_) rfl (by kernel_rfl) (by kernel_rfl) (by kernel_rfl) (fun _ _ _ h => h) (Or.inl ⟨by kernel_rfl, ?_⟩) HS ?_
          rotate_left
          · (rintro w -; go_simp) <;> with_reducible rfl
          try simp only [Act.put, List.getElem_toArray, List.getElem_cons_succ, List.getElem_cons_zero, List.setIfInBounds_toArray, List.set_cons_zero, List.set_cons_succ]
          refine wpAnyH_take (i := 3) (v := ?_) rfl (by kernel_rfl) (by kernel_rfl) (by kernel_rfl) (fun _ _ _ h => h) (Or.inl ⟨by kernel_rfl, ?_⟩) HS ?_
          rotate_left
          · (rintro w -; go_simp) <;> with_reducible rfl
          try simp only [Act.put, List.getElem_toArray, List.getElem_cons_succ, List.getElem_cons_zero, List.setIfInBounds_toArray, List.set_cons_zero, List.set_cons_succ]
          refine wpAnyH_take (i := 4) (v := ?_) rfl (by kernel_rfl) (by kernel_rfl) (by kernel_rfl) (fun _ _ _ h => h) (Or.inl ⟨by kernel_rfl, ?_⟩) HS ?_
          rotate_left
          · (rintro w -; go_simp) <;> with_reducible rfl
          try simp only [Act.put, List.getElem_toArray, List.getElem_cons_succ, List.getElem_cons_zero, List.setIfInBounds_toArray, List.set_cons_zero, List.set_cons_succ]
          refine wpAnyH_ready (rs := [0, 1, 5]) (by kernel_rfl) (by simp) ?_
          refine AllReadyH.cons rfl (fun K hK => ?o1) (AllReadyH.cons rfl (fun K hK => ?o2) (AllReadyH.cons rfl (fun K hK => ?o3) AllReadyH.nil))
          case' o1 =>
            obtain ⟨x0, x1, x2, x3, x4, x5, x6, x7⟩ := HL.out.X
            go_simp
            refine hK.out _ _ trivial (fun HS => ?_)
            clear hK K x0 x1 x2 x3 x4 x5 x6 x7
            refine wpAnyH_ready (rs := [1, 5]) (by kernel_rfl) (by simp) ?_
            refine AllReadyH.cons rfl (fun K hK => ?o4) (AllReadyH.cons rfl (fun K hK => ?o5) AllReadyH.nil)
            case' o4 =>
              have y0 := HL.out.S.c0
              have y1 := HL.out.S.c1
              have y2 := HL.out.S.c2
              go_simp
              refine hK.out _ _ trivial (fun HS => ?_)
              clear hK K y0 y1 y2
              refine wpAnyH_ready (rs := [5]) (by kernel_rfl) (by simp) ?_
              refine AllReadyH.cons rfl (fun K hK => ?o6) AllReadyH.nil
              case' o6 =>
                go_simp
                refine hK.out _ _ trivial (fun HS => ?_)
                clear hK K
                have HG : Hid (Ar (q0.alloc (.cells (madeCells #[.int .i64 0] n) 22)) (.slice (some ⟨q0.heap.size, 0, none⟩) n n) n (fun _ => 0)) := Rw.ar (Rw.made q0 (.int .i64 0) n 22) (by omega) (fun _ _ => by omega)
                replace HL : Hid (I9 w h0 bs (fun W' => Q8 h0 (.int .i64 B) (.int .i64 W) (.slice adr nD cap) (.int .i64 b1) (.int .i64 b2) (.int .i64 ep) (.int .i64 0) (.int .i64 cl) W') (.slice aM n kM) (.slice aV n kV) (.slice aq n kq) n P (k : Int) (q0.alloc (.cells (madeCells #[.int .i64 0] n) 22))) := HL.out.later (bel1 _ _) (HL.out.X.later (bel1 _ _))
                generalize q0.alloc (.cells (madeCells #[.int .i64 0] n) 22) = q1 at *
                generalize q0.heap.size = bg at *
            case' o5 =>
              go_simp
              refine hK.out _ _ trivial (fun HS => ?_)
              clear hK K
              have HG : Hid (Ar (q0.alloc (.cells (madeCells #[.int .i64 0] n) 22)) (.slice (some ⟨q0.heap.size, 0, none⟩) n n) n (fun _ => 0)) := Rw.ar (Rw.made q0 (.int .i64 0) n 22) (by omega) (fun _ _ => by omega)
              replace HL : Hid (I9 w h0 bs (fun W' => Q8 h0 (.int .i64 B) (.int .i64 W) (.slice adr nD cap) (.int .i64 b1) (.int .i64 b2) (.int .i64 ep) (.int .i64 0) (.int .i64 cl) W') (.slice aM n kM) (.slice aV n kV) (.slice aq n kq) n P (k : Int) (q0.alloc (.cells (madeCells #[.int .i64 0] n) 22))) := HL.out.later (bel1 _ _) (HL.out.X.later (bel1 _ _))
              generalize q0.alloc (.cells (madeCells #[.int .i64 0] n) 22) = q1 at *
              generalize q0.heap.size = bg at *
              refine wpAnyH_ready (rs := [1]) (by kernel_rfl) (by simp) ?_
              refine AllReadyH.cons rfl (fun K hK => ?o7) AllReadyH.nil
              case' o7 =>
                have y0 := HL.out.S.c0
                have y1 := HL.out.S.c1
                have y2 := HL.out.S.c2
                go_simp
                refine hK.out _ _ trivial (fun HS => ?_)
                clear hK K y0 y1 y2
          case' o2 =>
            have y0 := HL.out.S.c0
            have y1 := HL.out.S.c1
            have y2 := HL.out.S.c2
            go_simp
            refine hK.out _ _ trivial (fun HS => ?_)
            clear hK K y0 y1 y2
            refine wpAnyH_ready (rs := [0, 5]) (by kernel_rfl) (by simp) ?_
            refine AllReadyH.cons rfl (fun K hK => ?o8) (AllReadyH.cons rfl (fun K hK => ?o9) AllReadyH.nil)
            case' o8 =>
              obtain ⟨x0, x1, x2, x3, x4, x5, x6, x7⟩ := HL.out.X
              go_simp
              refine hK.out _ _ trivial (fun HS => ?_)
              clear hK K x0 x1 x2 x3 x4 x5 x6 x7
              refine wpAnyH_ready (rs := [5]) (by kernel_rfl) (by simp) ?_
              refine AllReadyH.cons rfl (fun K hK => ?o10) AllReadyH.nil
              case' o10 =>
                go_simp
                refine hK.out _ _ trivial (fun HS => ?_)
                clear hK K
                have HG : Hid (Ar (q0.alloc (.cells (madeCells #[.int .i64 0] n) 22)) (.slice (some ⟨q0.heap.size, 0, none⟩) n n) n (fun _ => 0)) := Rw.ar (Rw.made q0 (.int .i64 0) n 22) (by omega) (fun _ _ => by omega)
                replace HL : Hid (I9 w h0 bs (fun W' => Q8 h0 (.int .i64 B) (.int .i64 W) (.slice adr nD cap) (.int .i64 b1) (.int .i64 b2) (.int .i64 ep) (.int .i64 0) (.int .i64 cl) W') (.slice aM n kM) (.slice aV n kV) (.slice aq n kq) n P (k : Int) (q0.alloc (.cells (madeCells #[.int .i64 0] n) 22))) := HL.out.later (bel1 _ _) (HL.out.X.later (bel1 _ _))
                generalize q0.alloc (.cells (madeCells #[.int .i64 0] n) 22) = q1 at *
                generalize q0.heap.size = bg at *
            case' o9 =>
              go_simp
              refine hK.out _ _ trivial (fun HS => ?_)
              clear hK K
              have HG : Hid (Ar (q0.alloc (.cells (madeCells #[.int .i64 0] n) 22)) (.slice (some ⟨q0.heap.size, 0, none⟩) n n) n (fun _ => 0)) := Rw.ar (Rw.made q0 (.int .i64 0) n 22) (by omega) (fun _ _ => by omega)
              replace HL : Hid (I9 w h0 bs (fun W' => Q8 h0 (.int .i64 B) (.int .i64 W) (.slice adr nD cap) (.int .i64 b1) (.int .i64 b2) (.int .i64 ep) (.int .i64 0) (.int .i64 cl) W') (.slice aM n kM) (.slice aV n kV) (.slice aq n kq) n P (k : Int) (q0.alloc (.cells (madeCells #[.int .i64 0] n) 22))) := HL.out.later (bel1 _ _) (HL.out.X.later (bel1 _ _))
              generalize q0.alloc (.cells (madeCells #[.int .i64 0] n) 22) = q1 at *
              generalize q0.heap.size = bg at *
              refine wpAnyH_ready (rs := [0]) (by kernel_rfl) (by simp) ?_
              refine AllReadyH.cons rfl (fun K hK => ?o11) AllReadyH.nil
              case' o11 =>
                obtain ⟨x0, x1, x2, x3, x4, x5, x6, x7⟩ := HL.out.X
                go_simp
                refine hK.out _ _ trivial (fun HS => ?_)
                clear hK K x0 x1 x2 x3 x4 x5 x6 x7
          case' o3 =>
            go_simp
            refine hK.out _ _ trivial (fun HS => ?_)
            clear hK K
            have HG : Hid (Ar (q0.alloc (.cells (madeCells #[.int .i64 0] n) 22)) (.slice (some ⟨q0.heap.size, 0, none⟩) n n) n (fun _ => 0)) := Rw.ar (Rw.made q0 (.int .i64 0) n 22) (by omega) (fun _ _ => by omega)
            replace HL : Hid (I9 w h0 bs (fun W' => Q8 h0 (.int .i64 B) (.int .i64 W) (.slice adr nD cap) (.int .i64 b1) (.int .i64 b2) (.int .i64 ep) (.int .i64 0) (.int .i64 cl) W') (.slice aM n kM) (.slice aV n kV) (.slice aq n kq) n P (k : Int) (q0.alloc (.cells (madeCells #[.int .i64 0] n) 22))) := HL.out.later (bel1 _ _) (HL.out.X.later (bel1 _ _))
            generalize q0.alloc (.cells (madeCells #[.int .i64 0] n) 22) = q1 at *
            generalize q0.heap.size = bg at *
            refine wpAnyH_ready (rs := [0, 1]) (by kernel_rfl) (by simp) ?_
            refine AllReadyH.cons rfl (fun K hK => ?o12) (AllReadyH.cons rfl (fun K hK => ?o13) AllReadyH.nil)
            case' o12 =>
              obtain ⟨x0, x1, x2, x3, x4, x5, x6, x7⟩ := HL.out.X
              go_simp
              refine hK.out _ _ trivial (fun HS => ?_)
              clear hK K x0 x1 x2 x3 x4 x5 x6 x7
              refine wpAnyH_ready (rs := [1]) (by kernel_rfl) (by simp) ?_
              refine AllReadyH.cons rfl (fun K hK => ?o14) AllReadyH.nil
              case' o14 =>
                have y0 := HL.out.S.c0
                have y1 := HL.out.S.c1
                have y2 := HL.out.S.c2
                go_simp
                refine hK.out _ _ trivial (fun HS => ?_)
                clear hK K y0 y1 y2
            case' o13 =>
              have y0 := HL.out.S.c0
              have y1 := HL.out.S.c1
              have y2 := HL.out.S.c2
              go_simp
              refine hK.out _ _ trivial (fun HS => ?_)
              clear hK K y0 y1 y2
              refine wpAnyH_ready (rs := [0]) (by kernel_rfl) (by simp) ?_
              refine AllReadyH.cons rfl (fun K hK => ?o15) AllReadyH.nil
              case' o15 =>
                obtain ⟨x0, x1, x2, x3, x4, x5, x6, x7⟩ := HL.out.X
                go_simp
                refine hK.out _ _ trivial (fun HS => ?_)
                clear hK K x0 x1 x2 x3 x4 x5 x6 x7
          all_goals
            refine wpAnyH_ready (rs := [6]) (by kernel_rfl) (by simp) ?_
            refine AllReadyH.cons rfl (fun K hK => ?_) AllReadyH.nil
            go_simp
            refine (still_step9 B W _ nD at' fa b1 b2 ep cl (k : Int) _ _ _ _ n P _ HI.out HAll.out.2.1 (by omega) (by omega) (by omega) (HAll.out.1.later HL.out.B) HL.out.M HL.out.V HL.out.Q HG.out (HAll.out.2.2.2.later HL.out.B)).mono ?_
            rintro e q2 ⟨g1, g2, g3, rfl, hV, hle, hb⟩
            refine hK.out _ _ trivial (fun HS => ?_)
            clear hK K
            have HN3 : Hid (g1 ≠ bs ∧ g2 ≠ bs ∧ g3 ≠ bs) := by have := HL.out.S.lt; exact ⟨by omega, by omega, by omega⟩
            have HS2 : Hid (Y3 bs (.slice aM n kM) (.slice aV n kV) (.int .i64 (k : Int)) q2) := HL.out.S.later hb
            have HX2 : Hid (Q8 h0 (.int .i64 B) (.int .i64 W) (.slice adr nD cap) (.int .i64 b1) (.int .i64 b2) (.int .i64 ep) (.int .i64 0) (.int .i64 cl) q2) := HL.out.X.later hb
            have HB2 : Hid (Below w.heap.size w q2) := bchain HL.out.B hb
            have HV2 : Hid (V9 n g1 g2 g3 (fun _ => 0) (fun _ => 0) P q2) := hV
            clear hV hle hb HL HG hmk
            refine wpAnyH_take (i := 7) (v := ?_) rfl (by kernel_rfl) (by kernel_rfl) (by kernel_rfl) (fun _ _ _ h => h) (Or.inl ⟨by kernel_rfl, ?_⟩) HS ?_
            rotate_left
            · (rintro w -; go_simp) <;> with_reducible rfl
            try simp only [Act.put, List.getElem_toArray, List.getElem_cons_succ, List.getElem_cons_zero, List.setIfInBounds_toArray, List.set_cons_zero, List.set_cons_succ]
            refine wpAnyH_take (i := 8) (v := ?_) rfl (by kernel_rfl) (by kernel_rfl) (by kernel_rfl) (fun _ _ _ h => h) (Or.inl ⟨by kernel_rfl, ?_⟩) HS ?_
            rotate_left
            · (rintro w -; go_simp) <;> with_reducible rfl
            try simp only [Act.put, List.getElem_toArray, List.getElem_cons_succ, List.getElem_cons_zero, List.setIfInBounds_toArray, List.set_cons_zero, List.set_cons_succ]
            refine wpAnyH_take (i := 9) (v := ?_) rfl (by kernel_rfl) (by kernel_rfl) (by kernel_rfl) (fun _ _ _ h => h) (Or.inl ⟨by kernel_rfl, ?_⟩) HS ?_
            rotate_left
            · (rintro w -; go_simp) <;> with_reducible rfl
            try simp only [Act.put, List.getElem_toArray, List.getElem_cons_succ, List.getElem_cons_zero, List.setIfInBounds_toArray, List.set_cons_zero, List.set_cons_succ]
            refine wpAnyH_take (i := 10) (v := ?_) rfl (by kernel_rfl) (by kernel_rfl) (by kernel_rfl) (fun _ _ _ h => h) (Or.inl ⟨by kernel_rfl, ?_⟩) HS ?_
            rotate_left
            · (rintro w -; go_simp) <;> with_reducible rfl
            try simp only [Act.put, List.getElem_toArray, List.getElem_cons_succ, List.getElem_cons_zero, List.setIfInBounds_toArray, List.set_cons_zero, List.set_cons_succ]
            obtain ⟨y0, y1, y2, f0, f1, f2⟩ := HS2.out
            refine wpAnyH_ready (rs := [11]) (by kernel_rfl) (by simp) ?_
            refine AllReadyH.cons rfl (fun K hK => ?_) AllReadyH.nil
            go_simp
            refine hK.out _ _ trivial (fun HS => ?_)
            clear hK K y0 y1 y2 f0 f1 f2
            refine wpAnyH_take (i := 12) (v := ?_) rfl (by kernel_rfl) (by kernel_rfl) (by kernel_rfl) (fun _ _ _ h => h) (Or.inl ⟨by kernel_rfl, ?_⟩) HS ?_
            rotate_left
            · (rintro w -; go_simp) <;> with_reducible rfl
            try simp only [Act.put, List.getElem_toArray, List.getElem_cons_succ, List.getElem_cons_zero, List.setIfInBounds_toArray, List.set_cons_zero, List.set_cons_succ]
            refine wpAnyH_take (i := 13) (v := ?_) rfl (by kernel_rfl) (by kernel_rfl) (by kernel_rfl) (fun _ _ _ h => h) (Or.inl ⟨by kernel_rfl, ?_⟩) HS ?_
            rotate_left
            · (rintro w -; go_simp) <;> with_reducible rfl
            try simp only [Act.put, List.getElem_toArray, List.getElem_cons_succ, List.getElem_cons_zero, List.setIfInBounds_toArray, List.set_cons_zero, List.set_cons_succ]
            refine wpAnyH_done (by kernel_rfl) ?_ _
            clear HS
            have HLn : Hid (I9 w h0 bs (fun W' => Q8 h0 (.int .i64 B) (.int .i64 W) (.slice adr nD cap) (.int .i64 b1) (.int .i64 b2) (.int .i64 ep) (.int .i64 0) (.int .i64 cl) W') (.slice (some ⟨g1, 0, none⟩) n n) (.slice (some ⟨g2, 0, none⟩) n n) (.slice (some ⟨g3, 0, none⟩) n n) n P ((k : Int) + 1) (((q2.setCell ⟨bs, 0, none⟩ (.slice (some ⟨g1, 0, none⟩) n n)).setCell ⟨bs, 1, none⟩ (.slice (some ⟨g2, 0, none⟩) n n)).setCell ⟨bs, 2, none⟩ (.int .i64 ((k : Int) + 1)))) := ⟨((HB2.out.setCell hbs _).setCell hbs _).setCell hbs _, ((HX2.out.far9i ⟨bs, 0, none⟩ _ hbn).far9i ⟨bs, 1, none⟩ _ hbn).far9i ⟨bs, 2, none⟩ _ hbn, ((HS2.out.set0 _).set1 _).set2 _, (((HV2.out.far ⟨bs, 0, none⟩ _ HN3.out).far ⟨bs, 1, none⟩ _ HN3.out).far ⟨bs, 2, none⟩ _ HN3.out).a1, (((HV2.out.far ⟨bs, 0, none⟩ _ HN3.out).far ⟨bs, 1, none⟩ _ HN3.out).far ⟨bs, 2, none⟩ _ HN3.out).a2, (((HV2.out.far ⟨bs, 0, none⟩ _ HN3.out).far ⟨bs, 1, none⟩ _ HN3.out).far ⟨bs, 2, none⟩ _ HN3.out).a3⟩
            clear HB2 HX2 HS2 HV2 HN3
            generalize (((q2.setCell ⟨bs, 0, none⟩ (.slice (some ⟨g1, 0, none⟩) n n)).setCell ⟨bs, 1, none⟩ (.slice (some ⟨g2, 0, none⟩) n n)).setCell ⟨bs, 2, none⟩ (.int .i64 ((k : Int) + 1))) = wE at *
            go_wp2
            go_roundw
            case rel => exact ⟨k + 1, _, _, _, _, _, _, by omega, rfl, rfl, by go_num, by rw [show (((k + 1 : Nat)) : Int) = (k : Int) + 1 by omega]; exact HLn⟩
            case measure => simp [intOf]; omega
        · obtain rfl : k = m := by omega
          have hkI : ¬ (k : Int) < (k : Int) := by omega
          go_wp2
          rename World => wo
          go_loopw [75] (fun s75 wr => ∃ j : Nat, j ≤ n ∧ s75 = .int .i64 (j : Int) ∧ Hid (I9 w h0 bs (fun W' => Q8 h0 (.int .i64 B) (.int .i64 W) (.slice adr nD cap) (.int .i64 b1) (.int .i64 b2) (.int .i64 ep) (.int .i64 0) (.int .i64 cl) W') (.slice aM n kM) (.slice aV n kV) (.slice aq n kq) n P (k : Int) wr)) (fun s75 _ => n - (intOf s75).toNat)
          case atStart => exact ⟨0, by omega, rfl, HL⟩
          case round =>
            clear HL
            obtain ⟨j, hj, rfl, HL⟩ := hrel
            by_cases hjl : j < n
            · have hjI : (j : Int) < (n : Int) := by omega
              obtain ⟨bq', oq', eq', cQ, -, -⟩ := HL.out.Q.at j hjl
              obtain ⟨bM', oM', eM', cM, -, -⟩ := HL.out.M.at j hjl
              obtain ⟨bV', oV', eV', cV, -, -⟩ := HL.out.V.at j hjl
              obtain ⟨bP', oP', eP', cP, -, -⟩ := (HAll.out.2.2.1.later HL.out.B).at j hjl
              subst eq' eM' eV' eP'
              have s0 := HL.out.S.c0
              have s1 := HL.out.S.c1
              have hne : (P j != P j) = false := by simp
              have hz : ((0 : Int) != 0) = false := by decide
              go_wp2
              go_quiet (fail)
              go_wp2
              go_roundw
              case rel => exact ⟨j + 1, by omega, by go_num, HL.out.later (below_drewN (Below.refl _ _) _) (HL.out.X.later (below_drewN (Below.refl _ _) _))⟩
              case measure => simp [intOf]; omega
            · obtain rfl : j = n := by omega
              have hjI : ¬ (j : Int) < (j : Int) := by omega
              have s2 := HL.out.S.c2
              go_wp2
              go_ret
              exact ⟨rfl, HL.out.B⟩
  · have e0 := hTl.no hI
    subst e0
    clear hTl hI
    go_wp2
    go_ret
    exact ⟨rfl, HB5.out⟩
end Go.Proofs.YtcdehbhdloaieaaDoor
