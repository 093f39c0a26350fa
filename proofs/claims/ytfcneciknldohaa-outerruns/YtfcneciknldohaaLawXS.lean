/-
  OuterSteps: for every rule, outer and list the law regattalaw10.OuterSteps returns true: any step, from any outer, is the document's, and so is how many results were held; what can't be made is refused.
-/
import Derived.Test.YtfcneciknldohaaLawXD
set_option linter.unusedVariables false
set_option linter.unusedSimpArgs false
namespace Go.Proofs.Ytfcneciknldohaa
open Go.RowKit

/-- The law's state: two units, the rule and the outer in their boxes. -/
structure G10 (w : World) (b0 du dv : Nat) (cu cv : Int) (r m vP vB : Value) (W : World) : Prop where
  L : L2 w du dv cu cv W
  X : Y2 b0 r m W
  O : Y2 (b0 + 1) vP vB W
theorem G10.later {w : World} {b0 du dv : Nat} {cu cv : Int} {r m vP vB : Value} {W W' : World} (h : G10 w b0 du dv cu cv r m vP vB W) (hb : Below W.heap.size W W') : G10 w b0 du dv cu cv r m vP vB W' := ⟨h.L.later hb, h.X.later hb, h.O.later hb⟩
/-- The blocks are apart. -/
structure D10 (w : World) (b0 du dv : Nat) : Prop where
  u0 : w.heap.size ≤ du
  v0 : w.heap.size ≤ dv
  ne : du ≠ dv
  bu : b0 ≠ du ∧ b0 + 1 ≠ du
  bv : b0 ≠ dv ∧ b0 + 1 ≠ dv
theorem G10.unu {w : World} {b0 du dv : Nat} {cu cv c : Int} {r m vP vB : Value} {W W' : World} (h : G10 w b0 du dv cu cv r m vP vB W) (d : D10 w b0 du dv) (hU : Un du c W W') : G10 w b0 du dv c cv r m vP vB W' := ⟨h.L.unu hU d.u0 d.ne, h.X.un hU d.bu.1, h.O.un hU d.bu.2⟩
theorem G10.unv {w : World} {b0 du dv : Nat} {cu cv c : Int} {r m vP vB : Value} {W W' : World} (h : G10 w b0 du dv cu cv r m vP vB W) (d : D10 w b0 du dv) (hU : Un dv c W W') : G10 w b0 du dv cu c r m vP vB W' := ⟨h.L.unv hU d.v0 d.ne, h.X.un hU d.bv.1, h.O.un hU d.bv.2⟩
/-- What the program answered. -/
structure N10 (bn dv : Nat) (n1 n2 : Value) (n : Nat) (FP FB : Nat → Int) (W : World) : Prop where
  Y : Y2 bn n1 n2 W
  a : Ar W n1 n FP
  b : Ar W n2 n FB
  u : Nb n1 dv
  v : Nb n2 dv
  ne : bn ≠ dv
theorem N10.later {bn dv : Nat} {n1 n2 : Value} {n : Nat} {FP FB : Nat → Int} {W W' : World} (h : N10 bn dv n1 n2 n FP FB W) (hb : Below W.heap.size W W') : N10 bn dv n1 n2 n FP FB W' := ⟨h.Y.later hb, h.a.later hb, h.b.later hb, h.u, h.v, h.ne⟩
theorem N10.unv {bn dv : Nat} {c : Int} {n1 n2 : Value} {n : Nat} {FP FB : Nat → Int} {W W' : World} (h : N10 bn dv n1 n2 n FP FB W) (hU : Un dv c W W') : N10 bn dv n1 n2 n FP FB W' := ⟨h.Y.un hU h.ne, h.a.un h.u hU, h.b.un h.v hU, h.u, h.v, h.ne⟩
/-- A block that is none of them. -/
structure Fr10 (w : World) (b0 du dv bn : Nat) (n1 n2 : Value) (bt : Nat) : Prop where
  w0 : w.heap.size ≤ bt
  x : bt ≠ b0 ∧ bt ≠ b0 + 1
  u : bt ≠ du ∧ bt ≠ dv
  n : bt ≠ bn
  a : Nb n1 bt
  b : Nb n2 bt
theorem fresh10 {w : World} {b0 du dv bn : Nat} {cu cv : Int} {r m vP vB n1 n2 : Value} {n : Nat} {FP FB : Nat → Int} {W : World} (h : G10 w b0 du dv cu cv r m vP vB W) (k : N10 bn dv n1 n2 n FP FB W) : Fr10 w b0 du dv bn n1 n2 W.heap.size :=
  ⟨h.L.B.size, ⟨fun e => by have := h.X.lt; omega, fun e => by have := h.O.lt; omega⟩, ⟨fun e => by have := World.block_lt_of_cell? _ _ h.L.u.1; dsimp only at this; omega, fun e => by have := World.block_lt_of_cell? _ _ h.L.v.1; dsimp only at this; omega⟩, fun e => by have := k.Y.lt; omega, k.a.nb (Nat.le_refl _), k.b.nb (Nat.le_refl _)⟩
theorem Uc.far10 {w : World} {d : Nat} {c : Int} (h : Uc w d c) (p : Addr) (u : Value) (hp : p.block ≠ d) : Uc (w.setCell p u) d c := ⟨cell_set hp h.1, by rw [World.frozen?_setCell]; exact h.2⟩
theorem G10.far {w : World} {b0 du dv bn : Nat} {cu cv : Int} {r m vP vB n1 n2 : Value} {W : World} (h : G10 w b0 du dv cu cv r m vP vB W) {p : Addr} (f : Fr10 w b0 du dv bn n1 n2 p.block) (u : Value) : G10 w b0 du dv cu cv r m vP vB (W.setCell p u) := ⟨⟨h.L.B.setCell f.w0 u, h.L.u.far10 p u f.u.1, h.L.v.far10 p u f.u.2⟩, h.X.far p u f.x.1, h.O.far p u f.x.2⟩
theorem N10.far {w : World} {b0 du dv bn : Nat} {n1 n2 : Value} {n : Nat} {FP FB : Nat → Int} {W : World} (h : N10 bn dv n1 n2 n FP FB W) {p : Addr} (f : Fr10 w b0 du dv bn n1 n2 p.block) (u : Value) : N10 bn dv n1 n2 n FP FB (W.setCell p u) := ⟨h.Y.far p u f.n, h.a.set10 p u f.a, h.b.set10 p u f.b, h.u, h.v, h.ne⟩
/-- What the last region reads. -/
structure K15 (bn bt dv : Nat) (c : Int) (x1 x2 x3 x4 : Value) (w : World) : Prop where
  c0 : w.cell? ⟨bn, 0, none⟩ = some x1
  c1 : w.cell? ⟨bn, 1, none⟩ = some x2
  d0 : w.cell? ⟨bt, 0, none⟩ = some x3
  d1 : w.cell? ⟨bt, 1, none⟩ = some x4
  v0 : w.cell? ⟨dv, 0, none⟩ = some (.int .i64 c)
theorem K15.later {bn bt dv : Nat} {c : Int} {x1 x2 x3 x4 : Value} {w w' : World} (h : K15 bn bt dv c x1 x2 x3 x4 w) (hb : Below w.heap.size w w') : K15 bn bt dv c x1 x2 x3 x4 w' := ⟨cell_later hb h.c0, cell_later hb h.c1, cell_later hb h.d0, cell_later hb h.d1, cell_later hb h.v0⟩
set_option maxRecDepth 100000 in
set_option maxHeartbeats 16000000 in
theorem outerSteps_any (r m : Int) (vP vB vG : Value) (nP nB nG : Nat) (P B G : Nat → Int) (r1 : r ≤ 9223372036854775807) (w : World) (hP : Ar w vP nP P) (hB : Ar w vB nB B) (hG : Ar w vG nG G) :
    Calls Try.prog 3 #[.agg #[.int .i64 r, .int .i64 m], .agg #[vP, vB], vG] w fun e w' => e = .returned (.bool true) ∧ Below w.heap.size w w' := by
  have HAB : Hid (Ar w vP nP P ∧ Ar w vB nB B ∧ Ar w vG nG G) := ⟨hP, hB, hG⟩
  obtain ⟨aP, cP, bP, oP', rfl, i1, i2, -, -⟩ := hP
  obtain ⟨aB, cB, bB, oB', rfl, j1, j2, -, -⟩ := hB
  obtain ⟨aG, cG, bG, oG', rfl, k1, k2, -, -⟩ := hG
  unfold maxLen at i2 j2 k2
  obtain ⟨w0, hw0⟩ : ∃ w0, w0 = (w.alloc (.cells #[.int .i64 r, .int .i64 m] 24)).alloc (.cells #[.slice aP nP cP, .slice aB nB cB] 27) := ⟨_, rfl⟩
  have HB0 : Hid (Below w.heap.size w w0) := by rw [hw0]; exact bel2 _ _ _
  have HX : Y2 w.heap.size (.int .i64 r) (.int .i64 m) w0 := by rw [hw0]; exact (Y2.new w _ _ _).later (bel1 _ _)
  have HO : Y2 (w.heap.size + 1) (.slice aP nP cP) (.slice aB nB cB) w0 := by
    have h := Y2.new (w.alloc (.cells #[.int .i64 r, .int .i64 m] 24)) (.slice aP nP cP) (.slice aB nB cB) 27
    rw [World.size_alloc] at h
    rw [hw0]; exact h
  obtain ⟨fw, hfw⟩ : ∃ fw : Bool, fw = true ↔ nP ≤ 200 ∧ nB ≤ 200 ∧ nG ≤ 200 := ⟨decide (nP ≤ 200 ∧ nB ≤ 200 ∧ nG ≤ 200), decide_eq_true_iff⟩
  obtain ⟨rg, hrg⟩ : ∃ rg : Bool, rg = true ↔ ruO r m := by
    by_cases h : ruO r m
    · exact ⟨true, fun _ => h, fun _ => rfl⟩
    · exact ⟨false, fun e => (by cases e), fun e => absurd e h⟩
  have CF : Hid (∀ W : World, Calls Try.prog 9 #[.agg #[.slice aP nP cP, .slice aB nB cB], .slice aG nG cG] W fun e w' => e = .returned (.bool fw) ∧ Below W.heap.size W w') := fun W => few10_any aP aB aG nP nB nG cP cB cG fw hfw W
  have CR : Hid (∀ W : World, Calls Try.prog 11 #[.int .i64 r, .int .i64 m] W fun e w' => e = .returned (.bool rg) ∧ w' = W) := fun W => refRight10 r m rg hrg W
  have Hfw : Hid (fw = true ↔ nP ≤ 200 ∧ nB ≤ 200 ∧ nG ≤ 200) := hfw
  have Hrg : Hid (rg = true ↔ ruO r m) := hrg
  clear hfw hrg
  go_enter Try.func3, Try.ntmps3
  go_upto_region 1 with fail
  rw [← hw0]
  clear hw0
  go_wp2_with fail
  refine (awake10_any _).mono ?_
  rintro e w1 ⟨rfl, hb⟩
  have HW1 : Hid (Below w.heap.size w w1) := bchain HB0.out hb
  replace HX := HX.later hb
  replace HO := HO.later hb
  clear hb HB0
  have y0 := HO.c0
  have y1 := HO.c1
  go_wp2_with fail
  refine (CF.out _).mono ?_
  rintro e w2 ⟨rfl, hb⟩
  have HW2 : Hid (Below w.heap.size w w2) := bchain HW1.out hb
  replace HX := HX.later hb
  replace HO := HO.later hb
  clear hb CF HW1 y0 y1
  cases fw
  · go_wp2
    go_ret
    exact ⟨rfl, HW2.out⟩
  have hfw := Hfw.out.1 rfl
  clear Hfw
  go_upto_region 6 with fail
  have hsz := HO.lt
  have hL := units10 HW2.out 34 37
  have hbu : Below w2.heap.size w2 ((w2.alloc (.cells #[.int .i64 0] 34)).alloc (.cells #[.int .i64 0] 37)) := bel2 _ _ _
  have HG3 : Hid (G10 w w.heap.size w2.heap.size (w2.heap.size + 1) 0 0 (.int .i64 r) (.int .i64 m) (.slice aP nP cP) (.slice aB nB cB) ((w2.alloc (.cells #[.int .i64 0] 34)).alloc (.cells #[.int .i64 0] 37))) := ⟨hL, HX.later hbu, HO.later hbu⟩
  have HD : Hid (D10 w w.heap.size w2.heap.size (w2.heap.size + 1)) := ⟨by omega, by omega, by omega, ⟨by omega, by omega⟩, ⟨by omega, by omega⟩⟩
  clear hL hbu HX HO hsz HW2
  generalize (w2.alloc (.cells #[.int .i64 0] 34)).alloc (.cells #[.int .i64 0] 37) = w3 at *
  obtain ⟨du, hdu⟩ : ∃ du, w2.heap.size = du := ⟨_, rfl⟩
  rw [hdu] at HG3 HD ⊢
  clear hdu
  obtain ⟨b0, hb0⟩ : ∃ b0, w.heap.size = b0 := ⟨_, rfl⟩
  have Hb0 : Hid (w.heap.size = b0) := hb0
  rw [hb0] at HG3 HD
  try simp only [hb0]
  clear hb0
  have x0 := HG3.out.X.c0
  have x1 := HG3.out.X.c1
  have y0 := HG3.out.O.c0
  have y1 := HG3.out.O.c1
  by_cases hgood : ruO r m ∧ smO nP nB nG
  case neg =>
    obtain ⟨E, hE⟩ := ocE_ex r m nP nB nG
    have hl : lnO nP nB nG := ⟨by omega, by omega, by omega⟩
    have hE0 : E ≠ 0 := by
      intro e
      subst e
      by_cases h1 : ruO r m
      · have h3 : ¬ smO nP nB nG := fun h => hgood ⟨h1, h⟩
        have := hE.2.2.1 h1 hl h3
        omega
      · have := hE.1 h1
        omega
    have HEr : Hid ((¬ ruO r m → E = 80) ∧ (ruO r m → ¬ smO nP nB nG → E = 40)) := ⟨hE.1, fun h1 h2 => hE.2.2.1 h1 hl h2⟩
    have CN : Hid (∀ W : World, Calls Try.prog 10 #[.pointer (some ⟨du, 0, none⟩), .int .i64 r, .int .i64 m, .agg #[.slice aP nP cP, .slice aB nB cB], .slice aG nG cG] W fun e w' => e = .returned (.tuple #[.agg #[.slice none 0 0, .slice none 0 0], .int .i64 E]) ∧ Below W.heap.size W w') := fun W => step10_no r m aP aB aG nP nB nG cP cB cG _ W E hE hE0
    clear hE hl hE0
    go_wp2_with fail
    refine (CN.out _).mono ?_
    rintro e w4 ⟨rfl, hb⟩
    obtain ⟨w5, hw5⟩ : ∃ w5, w5 = w4.alloc (.cells #[.slice none 0 0, .slice none 0 0] 27) := ⟨_, rfl⟩
    have HG5 : Hid (G10 w b0 du (du + 1) 0 0 (.int .i64 r) (.int .i64 m) (.slice aP nP cP) (.slice aB nB cB) w5) := by rw [hw5]; exact (HG3.out.later hb).later (bel1 _ _)
    have HN5 : Y2 w4.heap.size (.slice none 0 0) (.slice none 0 0) w5 := by rw [hw5]; exact Y2.new _ _ _ _
    clear hb CN x0 x1 y0 y1 HG3
    go_upto_region 7 with fail
    rw [← hw5]
    clear hw5
    generalize w4.heap.size = bn at *
    have x0 := HG5.out.X.c0
    have x1 := HG5.out.X.c1
    have y0 := HG5.out.O.c0
    have y1 := HG5.out.O.c1
    have n0 := HN5.c0
    have n1 := HN5.c1
    go_wp2_with fail
    refine (CR.out _).mono ?_
    rintro e w6 ⟨rfl, rfl⟩
    clear CR
    by_cases hr : ruO r m
    · obtain rfl : rg = true := Hrg.out.2 hr
      have hs : ¬ smO nP nB nG := fun h => hgood ⟨hr, h⟩
      obtain rfl : E = 40 := HEr.out.2 hr hs
      by_cases h1 : nP = nG
      · subst h1
        have h2 : ¬ nB = nP := fun h => hs ⟨rfl, h⟩
        have h2' : ¬ (nB : Int) = (nP : Int) := by omega
        have h2b : ((nB : Int) != (nP : Int)) = true := by simpa using h2'
        clear hr hs hgood HEr
        go_wp2_with fail
        refine (count_any du 0 _ HG5.out.L.u.1).mono ?_
        rintro e w7 ⟨rfl, rfl⟩
        go_wp2
        go_ret
        exact ⟨rfl, HG5.out.L.B⟩
      · have h1' : ¬ (nP : Int) = (nG : Int) := by omega
        have h1b : ((nP : Int) != (nG : Int)) = true := by simpa using h1'
        clear hr hs hgood HEr
        go_wp2_with fail
        refine (count_any du 0 _ HG5.out.L.u.1).mono ?_
        rintro e w7 ⟨rfl, rfl⟩
        go_wp2
        go_ret
        exact ⟨rfl, HG5.out.L.B⟩
    · obtain rfl : rg = false := by rw [Bool.eq_false_iff]; intro h; exact hr (Hrg.out.1 h)
      obtain rfl : E = 80 := HEr.out.1 hr
      clear hr hgood HEr
      go_wp2_with fail
      refine (count_any du 0 _ HG5.out.L.u.1).mono ?_
      rintro e w7 ⟨rfl, rfl⟩
      go_wp2
      go_ret
      exact ⟨rfl, HG5.out.L.B⟩
  obtain ⟨hr, hs1, hs2⟩ := hgood
  subst hs1
  subst hs2
  obtain rfl : rg = true := Hrg.out.2 hr
  have HNn : Hid (nB ≤ 200) := hfw.1
  have hoS := oS_rng r m B P G nB
  have CN : Hid (∀ W : World, G10 w b0 du (du + 1) 0 0 (.int .i64 r) (.int .i64 m) (.slice aP nB cP) (.slice aB nB cB) W → Calls Try.prog 10 #[.pointer (some ⟨du, 0, none⟩), .int .i64 r, .int .i64 m, .agg #[.slice aP nB cP, .slice aB nB cB], .slice aG nB cG] W fun e w' => ∃ (a1 a2 : Option Addr) (k1 k2 : Nat), e = .returned (.tuple #[.agg #[.slice a1 nB k1, .slice a2 nB k2], .int .i64 0]) ∧ St10 W (.slice a1 nB k1) (.slice a2 nB k2) nB r m B P G w' ∧ Un du (0 + oS r m B P G nB) W w') := fun W h => step10_un r m hr r1 _ _ _ nB P B G (by omega) du 0 (by omega) (by omega) W (HAB.out.1.later h.L.B) (HAB.out.2.1.later h.L.B) (HAB.out.2.2.later h.L.B) (HAB.out.1.nb HD.out.u0) (HAB.out.2.1.nb HD.out.u0) (HAB.out.2.2.nb HD.out.u0) h.L.u
  rw [Int.zero_add] at CN
  have CV : Hid (∀ (W : World) (cu : Int) (v1 v2 v3 : Value), G10 w b0 du (du + 1) cu 0 (.int .i64 r) (.int .i64 m) (.slice aP nB cP) (.slice aB nB cB) W → An du (du + 1) v1 nB P W → An du (du + 1) v2 nB B W → An du (du + 1) v3 nB G W → Calls Try.prog 13 #[.pointer (some ⟨du + 1, 0, none⟩), .int .i64 r, .int .i64 m, .agg #[v1, v2], v3] W fun e w' => ∃ (a1 a2 : Option Addr) (k1 k2 : Nat), e = .returned (.agg #[.slice a1 nB k1, .slice a2 nB k2]) ∧ Ar w' (.slice a1 nB k1) nB (fun i => oP r m (B i) (P i) (G i)) ∧ Ar w' (.slice a2 nB k2) nB (fun i => oB m (B i) (G i)) ∧ (Ow W.heap.size (.slice a1 nB k1) ∧ Ow W.heap.size (.slice a2 nB k2)) ∧ Un (du + 1) (0 + oS r m B P G nB) W w') := fun W cu v1 v2 v3 h h1 h2 h3 => refStep10 r m hr r1 v1 v2 v3 nB P B G (by omega) (du + 1) 0 (by omega) (by omega) W h1.a h2.a h3.a h1.v h2.v h3.v h.L.v.1 h.L.v.2
  rw [Int.zero_add] at CV
  have CP : Hid (∀ (W : World) (v : Value) (F : Nat → Int), Ar W v nB F → Calls Try.prog 14 #[v] W fun e w' => ∃ v', e = .returned v' ∧ Ar w' v' nB F ∧ Ow W.heap.size v' ∧ Below W.heap.size W w') := fun W v F h => plain10_any v nB F (by omega) W h
  have CL : Hid (∀ (W : World) (v1 v2 v3 v4 : Value) (F H : Nat → Int), Ar W v1 nB F → Ar W v2 nB H → Ar W v3 nB F → Ar W v4 nB H → Calls Try.prog 15 #[.agg #[v1, v2], .agg #[v3, v4]] W fun e w' => e = .returned (.bool true) ∧ Below W.heap.size W w') := fun W v1 v2 v3 v4 F H h1 h2 h3 h4 => like10_yes v1 v2 v3 v4 nB F H (by omega) W h1 h2 h3 h4
  have HSt : Hid (∀ (W w' : World) (v1 v2 : Value), St10 W v1 v2 nB r m B P G w' → Ar w' v1 nB (fun i => oP r m (B i) (P i) (G i)) ∧ Ar w' v2 nB (fun i => oB m (B i) (G i)) ∧ Ow W.heap.size v1 ∧ Ow W.heap.size v2) := fun W w' v1 v2 h => h
  generalize (fun i => oP r m (B i) (P i) (G i)) = FP at *
  generalize (fun i => oB m (B i) (G i)) = FB at *
  generalize oS r m B P G nB = cc at *
  clear hr Hrg hfw i1 j1 k1 hoS
  go_wp2_with fail
  refine (CN.out _ HG3.out).mono ?_
  rintro e w4 ⟨a1, a2, z1, z2, rfl, hS, hU⟩
  obtain ⟨q1, q2, q3, q4⟩ := HSt.out _ _ _ _ hS
  have hdv : du + 1 < w3.heap.size := World.block_lt_of_cell? _ _ HG3.out.L.v.1
  have hG4 := HG3.out.unu HD.out hU
  have hdv4 : du + 1 < w4.heap.size := World.block_lt_of_cell? _ _ hG4.L.v.1
  obtain ⟨w5, hw5⟩ : ∃ w5, w5 = w4.alloc (.cells #[.slice a1 nB z1, .slice a2 nB z2] 27) := ⟨_, rfl⟩
  have HG5 : Hid (G10 w b0 du (du + 1) cc 0 (.int .i64 r) (.int .i64 m) (.slice aP nB cP) (.slice aB nB cB) w5) := by rw [hw5]; exact hG4.later (bel1 _ _)
  have HN5 : Hid (N10 w4.heap.size (du + 1) (.slice a1 nB z1) (.slice a2 nB z2) nB FP FB w5) := by rw [hw5]; exact ⟨Y2.new _ _ _ _, q1.later (bel1 _ _), q2.later (bel1 _ _), ow_apart q3 hdv, ow_apart q4 hdv, by omega⟩
  clear hS hU q1 q2 q3 q4 hdv hdv4 hG4 CN HSt x0 x1 y0 y1 HG3
  go_upto_region 7 with fail
  rw [← hw5]
  clear hw5
  generalize w4.heap.size = bn at *
  have x0 := HG5.out.X.c0
  have x1 := HG5.out.X.c1
  have y0 := HG5.out.O.c0
  have y1 := HG5.out.O.c1
  go_wp2_with fail
  refine (CR.out _).mono ?_
  rintro e w6 ⟨rfl, rfl⟩
  clear CR
  go_upto_region 14 with fail
  clear x0 x1 y0 y1
  have hbD : Below w6.heap.size w6 w6.drew := (Below.refl _ _).drew
  replace HG5 : Hid (G10 w b0 du (du + 1) cc 0 (.int .i64 r) (.int .i64 m) (.slice aP nB cP) (.slice aB nB cB) w6.drew) := HG5.out.later hbD
  replace HN5 : Hid (N10 bn (du + 1) (.slice a1 nB z1) (.slice a2 nB z2) nB FP FB w6.drew) := HN5.out.later hbD
  go_cut [12] (fun s12 wc => ∃ (bt : Nat) (u1 u2 : Option Addr) (k1 k2 : Nat), s12 = .pointer (some ⟨bt, 0, none⟩) ∧ Hid (Y2 bt (.slice u1 nB k1) (.slice u2 nB k2) wc ∧ Ar wc (.slice u1 nB k1) nB FP ∧ Ar wc (.slice u2 nB k2) nB FB) ∧ Hid (G10 w b0 du (du + 1) cc cc (.int .i64 r) (.int .i64 m) (.slice aP nB cP) (.slice aB nB cB) wc ∧ N10 bn (du + 1) (.slice a1 nB z1) (.slice a2 nB z2) nB FP FB wc))
  case first =>
    refine wp_region_held_drew (S := fun W' => Y2 b0 (.int .i64 r) (.int .i64 m) W' ∧ Y2 (b0 + 1) (.slice aP nB cP) (.slice aB nB cB) W') (by kernel_rfl) ⟨HG5.out.X, HG5.out.O⟩ (fun HS => ?_)
    clear hbD
    generalize w6.drew = q0 at *
    refine wpAnyH_take (i := 0) (v := ?v1) rfl (by kernel_rfl) (by kernel_rfl) (by kernel_rfl) (fun _ _ _ h => h) (Or.inl ⟨by kernel_rfl, ?h1⟩) HS ?r1
    case h1 => (rintro w ⟨⟨x0, x1, -, -⟩, ⟨y0, y1, -, -⟩⟩; go_simp) <;> with_reducible rfl
    try simp only [Act.put, List.getElem_toArray, List.getElem_cons_succ, List.getElem_cons_zero, List.setIfInBounds_toArray, List.set_cons_zero, List.set_cons_succ]
    refine wpAnyH_take (i := 1) (v := ?v2) rfl (by kernel_rfl) (by kernel_rfl) (by kernel_rfl) (fun _ _ _ h => h) (Or.inl ⟨by kernel_rfl, ?h2⟩) HS ?r2
    case h2 => (rintro w ⟨⟨x0, x1, -, -⟩, ⟨y0, y1, -, -⟩⟩; go_simp) <;> with_reducible rfl
    try simp only [Act.put, List.getElem_toArray, List.getElem_cons_succ, List.getElem_cons_zero, List.setIfInBounds_toArray, List.set_cons_zero, List.set_cons_succ]
    refine wpAnyH_take (i := 2) (v := ?v3) rfl (by kernel_rfl) (by kernel_rfl) (by kernel_rfl) (fun _ _ _ h => h) (Or.inl ⟨by kernel_rfl, ?h3⟩) HS ?r3
    case h3 => (rintro w ⟨⟨x0, x1, -, -⟩, ⟨y0, y1, -, -⟩⟩; go_simp) <;> with_reducible rfl
    try simp only [Act.put, List.getElem_toArray, List.getElem_cons_succ, List.getElem_cons_zero, List.setIfInBounds_toArray, List.set_cons_zero, List.set_cons_succ]
    refine wpAnyH_take (i := 3) (v := ?v4) rfl (by kernel_rfl) (by kernel_rfl) (by kernel_rfl) (fun _ _ _ h => h) (Or.inl ⟨by kernel_rfl, ?h4⟩) HS ?r4
    case h4 => (rintro w ⟨⟨x0, x1, -, -⟩, ⟨y0, y1, -, -⟩⟩; go_simp) <;> with_reducible rfl
    try simp only [Act.put, List.getElem_toArray, List.getElem_cons_succ, List.getElem_cons_zero, List.setIfInBounds_toArray, List.set_cons_zero, List.set_cons_succ]
    refine wpAnyH_take (i := 4) (v := ?v5) rfl (by kernel_rfl) (by kernel_rfl) (by kernel_rfl) (fun _ _ _ h => h) (Or.inl ⟨by kernel_rfl, ?h5⟩) HS ?r5
    case h5 => (rintro w ⟨⟨x0, x1, -, -⟩, ⟨y0, y1, -, -⟩⟩; go_simp) <;> with_reducible rfl
    try simp only [Act.put, List.getElem_toArray, List.getElem_cons_succ, List.getElem_cons_zero, List.setIfInBounds_toArray, List.set_cons_zero, List.set_cons_succ]
    refine wpAnyH_take (i := 5) (v := ?v6) rfl (by kernel_rfl) (by kernel_rfl) (by kernel_rfl) (fun _ _ _ h => h) (Or.inl ⟨by kernel_rfl, ?h6⟩) HS ?r6
    case h6 => (rintro w ⟨⟨x0, x1, -, -⟩, ⟨y0, y1, -, -⟩⟩; go_simp) <;> with_reducible rfl
    try simp only [Act.put, List.getElem_toArray, List.getElem_cons_succ, List.getElem_cons_zero, List.setIfInBounds_toArray, List.set_cons_zero, List.set_cons_succ]
    refine wpAnyH_take (i := 6) (v := ?v7) rfl (by kernel_rfl) (by kernel_rfl) (by kernel_rfl) (fun _ _ _ h => h) (Or.inl ⟨by kernel_rfl, ?h7⟩) HS ?r7
    case h7 => (rintro w ⟨⟨x0, x1, -, -⟩, ⟨y0, y1, -, -⟩⟩; go_simp) <;> with_reducible rfl
    try simp only [Act.put, List.getElem_toArray, List.getElem_cons_succ, List.getElem_cons_zero, List.setIfInBounds_toArray, List.set_cons_zero, List.set_cons_succ]
    refine wpAnyH_take (i := 8) (v := ?v8) rfl (by kernel_rfl) (by kernel_rfl) (by kernel_rfl) (fun _ _ _ h => h) (Or.inl ⟨by kernel_rfl, ?h8⟩) HS ?r8
    case h8 => (rintro w ⟨⟨x0, x1, -, -⟩, ⟨y0, y1, -, -⟩⟩; go_simp) <;> with_reducible rfl
    try simp only [Act.put, List.getElem_toArray, List.getElem_cons_succ, List.getElem_cons_zero, List.setIfInBounds_toArray, List.set_cons_zero, List.set_cons_succ]
    refine wpAnyH_take (i := 9) (v := ?v9) rfl (by kernel_rfl) (by kernel_rfl) (by kernel_rfl) (fun _ _ _ h => h) (Or.inl ⟨by kernel_rfl, ?h9⟩) HS ?r9
    case h9 => (rintro w ⟨⟨x0, x1, -, -⟩, ⟨y0, y1, -, -⟩⟩; go_simp) <;> with_reducible rfl
    try simp only [Act.put, List.getElem_toArray, List.getElem_cons_succ, List.getElem_cons_zero, List.setIfInBounds_toArray, List.set_cons_zero, List.set_cons_succ]
    refine wpAnyH_take (i := 12) (v := ?v10) rfl (by kernel_rfl) (by kernel_rfl) (by kernel_rfl) (fun _ _ _ h => h) (Or.inl ⟨by kernel_rfl, ?h10⟩) HS ?r10
    case h10 => (rintro w ⟨⟨x0, x1, -, -⟩, ⟨y0, y1, -, -⟩⟩; go_simp) <;> with_reducible rfl
    try simp only [Act.put, List.getElem_toArray, List.getElem_cons_succ, List.getElem_cons_zero, List.setIfInBounds_toArray, List.set_cons_zero, List.set_cons_succ]
    refine wpAnyH_ready (rs := [7, 15]) (by kernel_rfl) (by simp) ?_
    refine AllReadyH.cons rfl (fun K hK => ?_) (AllReadyH.cons rfl (fun K hK => ?_) AllReadyH.nil)
    · go_simp
      refine (CP.out _ _ P (HAB.out.1.later HG5.out.L.B)).mono ?_
      rintro e q1 ⟨pv, rfl, hA, hO, hb⟩
      obtain ⟨pa1, pc1, pb1, po1, rfl, -, -, -, -⟩ := id hA
      have P1 : Hid (An du (du + 1) (.slice pa1 nB pc1) nB P q1) := An.new HG5.out.L hA hO
      replace HG5 : Hid (G10 w b0 du (du + 1) cc 0 (.int .i64 r) (.int .i64 m) (.slice aP nB cP) (.slice aB nB cB) q1) := HG5.out.later hb
      refine hK.out _ _ ⟨HG5.out.X, HG5.out.O⟩ (fun HS => ?_)
      clear hK K
      replace HN5 : Hid (N10 bn (du + 1) (.slice a1 nB z1) (.slice a2 nB z2) nB FP FB q1) := HN5.out.later hb
      clear hA hO hb
      try simp only [Act.put, List.getElem_toArray, List.getElem_cons_succ, List.getElem_cons_zero, List.setIfInBounds_toArray, List.set_cons_zero, List.set_cons_succ]
      refine wpAnyH_ready (rs := [10, 15]) (by kernel_rfl) (by simp) ?_
      refine AllReadyH.cons rfl (fun K hK => ?_) (AllReadyH.cons rfl (fun K hK => ?_) AllReadyH.nil)
      · go_simp
        refine (CP.out _ _ B (HAB.out.2.1.later HG5.out.L.B)).mono ?_
        rintro e q2 ⟨pv, rfl, hA, hO, hb⟩
        obtain ⟨pa2, pc2, pb2, po2, rfl, -, -, -, -⟩ := id hA
        have P2 : Hid (An du (du + 1) (.slice pa2 nB pc2) nB B q2) := An.new HG5.out.L hA hO
        replace HG5 : Hid (G10 w b0 du (du + 1) cc 0 (.int .i64 r) (.int .i64 m) (.slice aP nB cP) (.slice aB nB cB) q2) := HG5.out.later hb
        refine hK.out _ _ ⟨HG5.out.X, HG5.out.O⟩ (fun HS => ?_)
        clear hK K
        replace P1 : Hid (An du (du + 1) (.slice pa1 nB pc1) nB P q2) := P1.out.later hb
        replace HN5 : Hid (N10 bn (du + 1) (.slice a1 nB z1) (.slice a2 nB z2) nB FP FB q2) := HN5.out.later hb
        clear hA hO hb
        try simp only [Act.put, List.getElem_toArray, List.getElem_cons_succ, List.getElem_cons_zero, List.setIfInBounds_toArray, List.set_cons_zero, List.set_cons_succ]
        refine wpAnyH_take (i := 11) (v := ?_) rfl (by kernel_rfl) (by kernel_rfl) (by kernel_rfl) (fun _ _ _ h => h) (Or.inl ⟨by kernel_rfl, ?_⟩) HS ?_
        rotate_left
        · (rintro w ⟨⟨x0, x1, -, -⟩, ⟨y0, y1, -, -⟩⟩; go_simp) <;> with_reducible rfl
        try simp only [Act.put, List.getElem_toArray, List.getElem_cons_succ, List.getElem_cons_zero, List.setIfInBounds_toArray, List.set_cons_zero, List.set_cons_succ]
        refine wpAnyH_ready (rs := [13, 15]) (by kernel_rfl) (by simp) ?_
        refine AllReadyH.cons rfl (fun K hK => ?_) (AllReadyH.cons rfl (fun K hK => ?_) AllReadyH.nil)
        · go_simp
          refine (CP.out _ _ G (HAB.out.2.2.later HG5.out.L.B)).mono ?_
          rintro e q3 ⟨pv, rfl, hA, hO, hb⟩
          obtain ⟨pa3, pc3, pb3, po3, rfl, -, -, -, -⟩ := id hA
          have P3 : Hid (An du (du + 1) (.slice pa3 nB pc3) nB G q3) := An.new HG5.out.L hA hO
          replace HG5 : Hid (G10 w b0 du (du + 1) cc 0 (.int .i64 r) (.int .i64 m) (.slice aP nB cP) (.slice aB nB cB) q3) := HG5.out.later hb
          refine hK.out _ _ ⟨HG5.out.X, HG5.out.O⟩ (fun HS => ?_)
          clear hK K
          replace P1 : Hid (An du (du + 1) (.slice pa1 nB pc1) nB P q3) := P1.out.later hb
          replace P2 : Hid (An du (du + 1) (.slice pa2 nB pc2) nB B q3) := P2.out.later hb
          replace HN5 : Hid (N10 bn (du + 1) (.slice a1 nB z1) (.slice a2 nB z2) nB FP FB q3) := HN5.out.later hb
          clear hA hO hb
          try simp only [Act.put, List.getElem_toArray, List.getElem_cons_succ, List.getElem_cons_zero, List.setIfInBounds_toArray, List.set_cons_zero, List.set_cons_succ]
          refine wpAnyH_ready (rs := [14, 15]) (by kernel_rfl) (by simp) ?_
          refine AllReadyH.cons rfl (fun K hK => ?_) (AllReadyH.cons rfl (fun K hK => ?_) AllReadyH.nil)
          · go_simp
            refine (CV.out _ _ _ _ _ HG5.out P1.out P2.out P3.out).mono ?_
            rintro e q4 ⟨u1, u2, y1, y2, rfl, hA, hB', hO, hU⟩
            have HR : Hid (Ar q4 (.slice u1 nB y1) nB FP ∧ Ar q4 (.slice u2 nB y2) nB FB) := ⟨hA, hB'⟩
            replace HG5 : Hid (G10 w b0 du (du + 1) cc cc (.int .i64 r) (.int .i64 m) (.slice aP nB cP) (.slice aB nB cB) q4) := HG5.out.unv HD.out hU
            refine hK.out _ _ ⟨HG5.out.X, HG5.out.O⟩ (fun HS => ?_)
            clear hK K
            replace HN5 : Hid (N10 bn (du + 1) (.slice a1 nB z1) (.slice a2 nB z2) nB FP FB q4) := HN5.out.unv hU
            clear hA hB' hO hU P1 P2 P3
            try simp only [Act.put, List.getElem_toArray, List.getElem_cons_succ, List.getElem_cons_zero, List.setIfInBounds_toArray, List.set_cons_zero, List.set_cons_succ]
            refine wpAnyH_ready (rs := [15]) (by kernel_rfl) (by simp) ?_
            refine AllReadyH.cons rfl (fun K hK => ?_) AllReadyH.nil
            go_simp
            have HF : Hid (Fr10 w b0 du (du + 1) bn (.slice a1 nB z1) (.slice a2 nB z2) q4.heap.size) := fresh10 HG5.out HN5.out
            have HT : Hid (Y2 q4.heap.size (.slice none 0 0) (.slice none 0 0) (q4.alloc (.cells #[.slice none 0 0, .slice none 0 0] 45))) := Y2.new _ _ _ _
            replace HG5 : Hid (G10 w b0 du (du + 1) cc cc (.int .i64 r) (.int .i64 m) (.slice aP nB cP) (.slice aB nB cB) (q4.alloc (.cells #[.slice none 0 0, .slice none 0 0] 45))) := HG5.out.later (bel1 _ _)
            refine hK.out _ _ ⟨HG5.out.X, HG5.out.O⟩ (fun HS => ?_)
            clear hK K
            replace HR : Hid (Ar (q4.alloc (.cells #[.slice none 0 0, .slice none 0 0] 45)) (.slice u1 nB y1) nB FP ∧ Ar (q4.alloc (.cells #[.slice none 0 0, .slice none 0 0] 45)) (.slice u2 nB y2) nB FB ∧ Nb (.slice u1 nB y1) q4.heap.size ∧ Nb (.slice u2 nB y2) q4.heap.size) := ⟨HR.out.1.later (bel1 _ _), HR.out.2.later (bel1 _ _), HR.out.1.nb (Nat.le_refl _), HR.out.2.nb (Nat.le_refl _)⟩
            replace HN5 : Hid (N10 bn (du + 1) (.slice a1 nB z1) (.slice a2 nB z2) nB FP FB (q4.alloc (.cells #[.slice none 0 0, .slice none 0 0] 45))) := HN5.out.later (bel1 _ _)
            generalize q4.alloc (.cells #[.slice none 0 0, .slice none 0 0] 45) = q5 at *
            generalize q4.heap.size = bt at *
            try simp only [Act.put, List.getElem_toArray, List.getElem_cons_succ, List.getElem_cons_zero, List.setIfInBounds_toArray, List.set_cons_zero, List.set_cons_succ]
            have t0 := HT.out.c0
            have t1 := HT.out.c1
            have f0 := HT.out.f0
            have f1 := HT.out.f1
            have K1 : Hid (Y2 bt (.slice u1 nB y1) (.slice u2 nB y2) ((q5.setCell ⟨bt, 0, none⟩ (.slice u1 nB y1)).setCell ⟨bt, 1, none⟩ (.slice u2 nB y2)) ∧ Ar ((q5.setCell ⟨bt, 0, none⟩ (.slice u1 nB y1)).setCell ⟨bt, 1, none⟩ (.slice u2 nB y2)) (.slice u1 nB y1) nB FP ∧ Ar ((q5.setCell ⟨bt, 0, none⟩ (.slice u1 nB y1)).setCell ⟨bt, 1, none⟩ (.slice u2 nB y2)) (.slice u2 nB y2) nB FB) := ⟨(HT.out.set0 _).set1 _, (HR.out.1.set10 _ _ HR.out.2.2.1).set10 _ _ HR.out.2.2.1, (HR.out.2.1.set10 _ _ HR.out.2.2.2).set10 _ _ HR.out.2.2.2⟩
            have K2 : Hid (G10 w b0 du (du + 1) cc cc (.int .i64 r) (.int .i64 m) (.slice aP nB cP) (.slice aB nB cB) ((q5.setCell ⟨bt, 0, none⟩ (.slice u1 nB y1)).setCell ⟨bt, 1, none⟩ (.slice u2 nB y2)) ∧ N10 bn (du + 1) (.slice a1 nB z1) (.slice a2 nB z2) nB FP FB ((q5.setCell ⟨bt, 0, none⟩ (.slice u1 nB y1)).setCell ⟨bt, 1, none⟩ (.slice u2 nB y2))) := ⟨(HG5.out.far (p := ⟨bt, 0, none⟩) HF.out _).far (p := ⟨bt, 1, none⟩) HF.out _, (HN5.out.far (p := ⟨bt, 0, none⟩) HF.out _).far (p := ⟨bt, 1, none⟩) HF.out _⟩
            clear HT HR HG5 HN5 HF
            refine wpAnyH_ready (rs := [16]) (by kernel_rfl) (by simp) ?_
            refine AllReadyH.cons rfl (fun K hK => ?_) AllReadyH.nil
            go_simp
            refine hK.out _ _ ⟨K2.out.1.X, K2.out.1.O⟩ (fun HS => ?_)
            clear hK K t0 t1 f0 f1
            refine wpAnyH_done (by kernel_rfl) ?_ _
            clear HS
            generalize ((q5.setCell ⟨bt, 0, none⟩ (.slice u1 nB y1)).setCell ⟨bt, 1, none⟩ (.slice u2 nB y2)) = wE at *
            go_wp2
            go_meet
            case rel => exact ⟨bt, u1, u2, y1, y2, rfl, K1, K2⟩
          · go_simp
            have HF : Hid (Fr10 w b0 du (du + 1) bn (.slice a1 nB z1) (.slice a2 nB z2) q3.heap.size) := fresh10 HG5.out HN5.out
            have HT : Hid (Y2 q3.heap.size (.slice none 0 0) (.slice none 0 0) (q3.alloc (.cells #[.slice none 0 0, .slice none 0 0] 45))) := Y2.new _ _ _ _
            replace HG5 : Hid (G10 w b0 du (du + 1) cc 0 (.int .i64 r) (.int .i64 m) (.slice aP nB cP) (.slice aB nB cB) (q3.alloc (.cells #[.slice none 0 0, .slice none 0 0] 45))) := HG5.out.later (bel1 _ _)
            refine hK.out _ _ ⟨HG5.out.X, HG5.out.O⟩ (fun HS => ?_)
            clear hK K
            replace P1 : Hid (An du (du + 1) (.slice pa1 nB pc1) nB P (q3.alloc (.cells #[.slice none 0 0, .slice none 0 0] 45))) := P1.out.later (bel1 _ _)
            replace P2 : Hid (An du (du + 1) (.slice pa2 nB pc2) nB B (q3.alloc (.cells #[.slice none 0 0, .slice none 0 0] 45))) := P2.out.later (bel1 _ _)
            replace P3 : Hid (An du (du + 1) (.slice pa3 nB pc3) nB G (q3.alloc (.cells #[.slice none 0 0, .slice none 0 0] 45))) := P3.out.later (bel1 _ _)
            replace HN5 : Hid (N10 bn (du + 1) (.slice a1 nB z1) (.slice a2 nB z2) nB FP FB (q3.alloc (.cells #[.slice none 0 0, .slice none 0 0] 45))) := HN5.out.later (bel1 _ _)
            generalize q3.alloc (.cells #[.slice none 0 0, .slice none 0 0] 45) = q4 at *
            generalize q3.heap.size = bt at *
            try simp only [Act.put, List.getElem_toArray, List.getElem_cons_succ, List.getElem_cons_zero, List.setIfInBounds_toArray, List.set_cons_zero, List.set_cons_succ]
            refine wpAnyH_ready (rs := [14]) (by kernel_rfl) (by simp) ?_
            refine AllReadyH.cons rfl (fun K hK => ?_) AllReadyH.nil
            go_simp
            refine (CV.out _ _ _ _ _ HG5.out P1.out P2.out P3.out).mono ?_
            rintro e q5 ⟨u1, u2, y1, y2, rfl, hA, hB', hO, hU⟩
            have hlt := HT.out.lt
            have HR : Hid (Ar q5 (.slice u1 nB y1) nB FP ∧ Ar q5 (.slice u2 nB y2) nB FB ∧ Nb (.slice u1 nB y1) bt ∧ Nb (.slice u2 nB y2) bt) := ⟨hA, hB', ow_apart hO.1 hlt, ow_apart hO.2 hlt⟩
            replace HG5 : Hid (G10 w b0 du (du + 1) cc cc (.int .i64 r) (.int .i64 m) (.slice aP nB cP) (.slice aB nB cB) q5) := HG5.out.unv HD.out hU
            refine hK.out _ _ ⟨HG5.out.X, HG5.out.O⟩ (fun HS => ?_)
            clear hK K
            replace HN5 : Hid (N10 bn (du + 1) (.slice a1 nB z1) (.slice a2 nB z2) nB FP FB q5) := HN5.out.unv hU
            replace HT : Hid (Y2 bt (.slice none 0 0) (.slice none 0 0) q5) := HT.out.un hU HF.out.u.2
            clear hlt
            clear hA hB' hO hU P1 P2 P3
            try simp only [Act.put, List.getElem_toArray, List.getElem_cons_succ, List.getElem_cons_zero, List.setIfInBounds_toArray, List.set_cons_zero, List.set_cons_succ]
            have t0 := HT.out.c0
            have t1 := HT.out.c1
            have f0 := HT.out.f0
            have f1 := HT.out.f1
            have K1 : Hid (Y2 bt (.slice u1 nB y1) (.slice u2 nB y2) ((q5.setCell ⟨bt, 0, none⟩ (.slice u1 nB y1)).setCell ⟨bt, 1, none⟩ (.slice u2 nB y2)) ∧ Ar ((q5.setCell ⟨bt, 0, none⟩ (.slice u1 nB y1)).setCell ⟨bt, 1, none⟩ (.slice u2 nB y2)) (.slice u1 nB y1) nB FP ∧ Ar ((q5.setCell ⟨bt, 0, none⟩ (.slice u1 nB y1)).setCell ⟨bt, 1, none⟩ (.slice u2 nB y2)) (.slice u2 nB y2) nB FB) := ⟨(HT.out.set0 _).set1 _, (HR.out.1.set10 _ _ HR.out.2.2.1).set10 _ _ HR.out.2.2.1, (HR.out.2.1.set10 _ _ HR.out.2.2.2).set10 _ _ HR.out.2.2.2⟩
            have K2 : Hid (G10 w b0 du (du + 1) cc cc (.int .i64 r) (.int .i64 m) (.slice aP nB cP) (.slice aB nB cB) ((q5.setCell ⟨bt, 0, none⟩ (.slice u1 nB y1)).setCell ⟨bt, 1, none⟩ (.slice u2 nB y2)) ∧ N10 bn (du + 1) (.slice a1 nB z1) (.slice a2 nB z2) nB FP FB ((q5.setCell ⟨bt, 0, none⟩ (.slice u1 nB y1)).setCell ⟨bt, 1, none⟩ (.slice u2 nB y2))) := ⟨(HG5.out.far (p := ⟨bt, 0, none⟩) HF.out _).far (p := ⟨bt, 1, none⟩) HF.out _, (HN5.out.far (p := ⟨bt, 0, none⟩) HF.out _).far (p := ⟨bt, 1, none⟩) HF.out _⟩
            clear HT HR HG5 HN5 HF
            refine wpAnyH_ready (rs := [16]) (by kernel_rfl) (by simp) ?_
            refine AllReadyH.cons rfl (fun K hK => ?_) AllReadyH.nil
            go_simp
            refine hK.out _ _ ⟨K2.out.1.X, K2.out.1.O⟩ (fun HS => ?_)
            clear hK K t0 t1 f0 f1
            refine wpAnyH_done (by kernel_rfl) ?_ _
            clear HS
            generalize ((q5.setCell ⟨bt, 0, none⟩ (.slice u1 nB y1)).setCell ⟨bt, 1, none⟩ (.slice u2 nB y2)) = wE at *
            go_wp2
            go_meet
            case rel => exact ⟨bt, u1, u2, y1, y2, rfl, K1, K2⟩
        · go_simp
          have HF : Hid (Fr10 w b0 du (du + 1) bn (.slice a1 nB z1) (.slice a2 nB z2) q2.heap.size) := fresh10 HG5.out HN5.out
          have HT : Hid (Y2 q2.heap.size (.slice none 0 0) (.slice none 0 0) (q2.alloc (.cells #[.slice none 0 0, .slice none 0 0] 45))) := Y2.new _ _ _ _
          replace HG5 : Hid (G10 w b0 du (du + 1) cc 0 (.int .i64 r) (.int .i64 m) (.slice aP nB cP) (.slice aB nB cB) (q2.alloc (.cells #[.slice none 0 0, .slice none 0 0] 45))) := HG5.out.later (bel1 _ _)
          refine hK.out _ _ ⟨HG5.out.X, HG5.out.O⟩ (fun HS => ?_)
          clear hK K
          replace P1 : Hid (An du (du + 1) (.slice pa1 nB pc1) nB P (q2.alloc (.cells #[.slice none 0 0, .slice none 0 0] 45))) := P1.out.later (bel1 _ _)
          replace P2 : Hid (An du (du + 1) (.slice pa2 nB pc2) nB B (q2.alloc (.cells #[.slice none 0 0, .slice none 0 0] 45))) := P2.out.later (bel1 _ _)
          replace HN5 : Hid (N10 bn (du + 1) (.slice a1 nB z1) (.slice a2 nB z2) nB FP FB (q2.alloc (.cells #[.slice none 0 0, .slice none 0 0] 45))) := HN5.out.later (bel1 _ _)
          generalize q2.alloc (.cells #[.slice none 0 0, .slice none 0 0] 45) = q3 at *
          generalize q2.heap.size = bt at *
          try simp only [Act.put, List.getElem_toArray, List.getElem_cons_succ, List.getElem_cons_zero, List.setIfInBounds_toArray, List.set_cons_zero, List.set_cons_succ]
          refine wpAnyH_ready (rs := [13]) (by kernel_rfl) (by simp) ?_
          refine AllReadyH.cons rfl (fun K hK => ?_) AllReadyH.nil
          go_simp
          refine (CP.out _ _ G (HAB.out.2.2.later HG5.out.L.B)).mono ?_
          rintro e q4 ⟨pv, rfl, hA, hO, hb⟩
          obtain ⟨pa3, pc3, pb3, po3, rfl, -, -, -, -⟩ := id hA
          have P3 : Hid (An du (du + 1) (.slice pa3 nB pc3) nB G q4) := An.new HG5.out.L hA hO
          replace HG5 : Hid (G10 w b0 du (du + 1) cc 0 (.int .i64 r) (.int .i64 m) (.slice aP nB cP) (.slice aB nB cB) q4) := HG5.out.later hb
          refine hK.out _ _ ⟨HG5.out.X, HG5.out.O⟩ (fun HS => ?_)
          clear hK K
          replace P1 : Hid (An du (du + 1) (.slice pa1 nB pc1) nB P q4) := P1.out.later hb
          replace P2 : Hid (An du (du + 1) (.slice pa2 nB pc2) nB B q4) := P2.out.later hb
          replace HN5 : Hid (N10 bn (du + 1) (.slice a1 nB z1) (.slice a2 nB z2) nB FP FB q4) := HN5.out.later hb
          replace HT : Hid (Y2 bt (.slice none 0 0) (.slice none 0 0) q4) := HT.out.later hb
          clear hA hO hb
          try simp only [Act.put, List.getElem_toArray, List.getElem_cons_succ, List.getElem_cons_zero, List.setIfInBounds_toArray, List.set_cons_zero, List.set_cons_succ]
          refine wpAnyH_ready (rs := [14]) (by kernel_rfl) (by simp) ?_
          refine AllReadyH.cons rfl (fun K hK => ?_) AllReadyH.nil
          go_simp
          refine (CV.out _ _ _ _ _ HG5.out P1.out P2.out P3.out).mono ?_
          rintro e q5 ⟨u1, u2, y1, y2, rfl, hA, hB', hO, hU⟩
          have hlt := HT.out.lt
          have HR : Hid (Ar q5 (.slice u1 nB y1) nB FP ∧ Ar q5 (.slice u2 nB y2) nB FB ∧ Nb (.slice u1 nB y1) bt ∧ Nb (.slice u2 nB y2) bt) := ⟨hA, hB', ow_apart hO.1 hlt, ow_apart hO.2 hlt⟩
          replace HG5 : Hid (G10 w b0 du (du + 1) cc cc (.int .i64 r) (.int .i64 m) (.slice aP nB cP) (.slice aB nB cB) q5) := HG5.out.unv HD.out hU
          refine hK.out _ _ ⟨HG5.out.X, HG5.out.O⟩ (fun HS => ?_)
          clear hK K
          replace HN5 : Hid (N10 bn (du + 1) (.slice a1 nB z1) (.slice a2 nB z2) nB FP FB q5) := HN5.out.unv hU
          replace HT : Hid (Y2 bt (.slice none 0 0) (.slice none 0 0) q5) := HT.out.un hU HF.out.u.2
          clear hlt
          clear hA hB' hO hU P1 P2 P3
          try simp only [Act.put, List.getElem_toArray, List.getElem_cons_succ, List.getElem_cons_zero, List.setIfInBounds_toArray, List.set_cons_zero, List.set_cons_succ]
          have t0 := HT.out.c0
          have t1 := HT.out.c1
          have f0 := HT.out.f0
          have f1 := HT.out.f1
          have K1 : Hid (Y2 bt (.slice u1 nB y1) (.slice u2 nB y2) ((q5.setCell ⟨bt, 0, none⟩ (.slice u1 nB y1)).setCell ⟨bt, 1, none⟩ (.slice u2 nB y2)) ∧ Ar ((q5.setCell ⟨bt, 0, none⟩ (.slice u1 nB y1)).setCell ⟨bt, 1, none⟩ (.slice u2 nB y2)) (.slice u1 nB y1) nB FP ∧ Ar ((q5.setCell ⟨bt, 0, none⟩ (.slice u1 nB y1)).setCell ⟨bt, 1, none⟩ (.slice u2 nB y2)) (.slice u2 nB y2) nB FB) := ⟨(HT.out.set0 _).set1 _, (HR.out.1.set10 _ _ HR.out.2.2.1).set10 _ _ HR.out.2.2.1, (HR.out.2.1.set10 _ _ HR.out.2.2.2).set10 _ _ HR.out.2.2.2⟩
          have K2 : Hid (G10 w b0 du (du + 1) cc cc (.int .i64 r) (.int .i64 m) (.slice aP nB cP) (.slice aB nB cB) ((q5.setCell ⟨bt, 0, none⟩ (.slice u1 nB y1)).setCell ⟨bt, 1, none⟩ (.slice u2 nB y2)) ∧ N10 bn (du + 1) (.slice a1 nB z1) (.slice a2 nB z2) nB FP FB ((q5.setCell ⟨bt, 0, none⟩ (.slice u1 nB y1)).setCell ⟨bt, 1, none⟩ (.slice u2 nB y2))) := ⟨(HG5.out.far (p := ⟨bt, 0, none⟩) HF.out _).far (p := ⟨bt, 1, none⟩) HF.out _, (HN5.out.far (p := ⟨bt, 0, none⟩) HF.out _).far (p := ⟨bt, 1, none⟩) HF.out _⟩
          clear HT HR HG5 HN5 HF
          refine wpAnyH_ready (rs := [16]) (by kernel_rfl) (by simp) ?_
          refine AllReadyH.cons rfl (fun K hK => ?_) AllReadyH.nil
          go_simp
          refine hK.out _ _ ⟨K2.out.1.X, K2.out.1.O⟩ (fun HS => ?_)
          clear hK K t0 t1 f0 f1
          refine wpAnyH_done (by kernel_rfl) ?_ _
          clear HS
          generalize ((q5.setCell ⟨bt, 0, none⟩ (.slice u1 nB y1)).setCell ⟨bt, 1, none⟩ (.slice u2 nB y2)) = wE at *
          go_wp2
          go_meet
          case rel => exact ⟨bt, u1, u2, y1, y2, rfl, K1, K2⟩
      · go_simp
        have HF : Hid (Fr10 w b0 du (du + 1) bn (.slice a1 nB z1) (.slice a2 nB z2) q1.heap.size) := fresh10 HG5.out HN5.out
        have HT : Hid (Y2 q1.heap.size (.slice none 0 0) (.slice none 0 0) (q1.alloc (.cells #[.slice none 0 0, .slice none 0 0] 45))) := Y2.new _ _ _ _
        replace HG5 : Hid (G10 w b0 du (du + 1) cc 0 (.int .i64 r) (.int .i64 m) (.slice aP nB cP) (.slice aB nB cB) (q1.alloc (.cells #[.slice none 0 0, .slice none 0 0] 45))) := HG5.out.later (bel1 _ _)
        refine hK.out _ _ ⟨HG5.out.X, HG5.out.O⟩ (fun HS => ?_)
        clear hK K
        replace P1 : Hid (An du (du + 1) (.slice pa1 nB pc1) nB P (q1.alloc (.cells #[.slice none 0 0, .slice none 0 0] 45))) := P1.out.later (bel1 _ _)
        replace HN5 : Hid (N10 bn (du + 1) (.slice a1 nB z1) (.slice a2 nB z2) nB FP FB (q1.alloc (.cells #[.slice none 0 0, .slice none 0 0] 45))) := HN5.out.later (bel1 _ _)
        generalize q1.alloc (.cells #[.slice none 0 0, .slice none 0 0] 45) = q2 at *
        generalize q1.heap.size = bt at *
        try simp only [Act.put, List.getElem_toArray, List.getElem_cons_succ, List.getElem_cons_zero, List.setIfInBounds_toArray, List.set_cons_zero, List.set_cons_succ]
        refine wpAnyH_ready (rs := [10]) (by kernel_rfl) (by simp) ?_
        refine AllReadyH.cons rfl (fun K hK => ?_) AllReadyH.nil
        go_simp
        refine (CP.out _ _ B (HAB.out.2.1.later HG5.out.L.B)).mono ?_
        rintro e q3 ⟨pv, rfl, hA, hO, hb⟩
        obtain ⟨pa2, pc2, pb2, po2, rfl, -, -, -, -⟩ := id hA
        have P2 : Hid (An du (du + 1) (.slice pa2 nB pc2) nB B q3) := An.new HG5.out.L hA hO
        replace HG5 : Hid (G10 w b0 du (du + 1) cc 0 (.int .i64 r) (.int .i64 m) (.slice aP nB cP) (.slice aB nB cB) q3) := HG5.out.later hb
        refine hK.out _ _ ⟨HG5.out.X, HG5.out.O⟩ (fun HS => ?_)
        clear hK K
        replace P1 : Hid (An du (du + 1) (.slice pa1 nB pc1) nB P q3) := P1.out.later hb
        replace HN5 : Hid (N10 bn (du + 1) (.slice a1 nB z1) (.slice a2 nB z2) nB FP FB q3) := HN5.out.later hb
        replace HT : Hid (Y2 bt (.slice none 0 0) (.slice none 0 0) q3) := HT.out.later hb
        clear hA hO hb
        try simp only [Act.put, List.getElem_toArray, List.getElem_cons_succ, List.getElem_cons_zero, List.setIfInBounds_toArray, List.set_cons_zero, List.set_cons_succ]
        refine wpAnyH_take (i := 11) (v := ?_) rfl (by kernel_rfl) (by kernel_rfl) (by kernel_rfl) (fun _ _ _ h => h) (Or.inl ⟨by kernel_rfl, ?_⟩) HS ?_
        rotate_left
        · (rintro w ⟨⟨x0, x1, -, -⟩, ⟨y0, y1, -, -⟩⟩; go_simp) <;> with_reducible rfl
        try simp only [Act.put, List.getElem_toArray, List.getElem_cons_succ, List.getElem_cons_zero, List.setIfInBounds_toArray, List.set_cons_zero, List.set_cons_succ]
        refine wpAnyH_ready (rs := [13]) (by kernel_rfl) (by simp) ?_
        refine AllReadyH.cons rfl (fun K hK => ?_) AllReadyH.nil
        go_simp
        refine (CP.out _ _ G (HAB.out.2.2.later HG5.out.L.B)).mono ?_
        rintro e q4 ⟨pv, rfl, hA, hO, hb⟩
        obtain ⟨pa3, pc3, pb3, po3, rfl, -, -, -, -⟩ := id hA
        have P3 : Hid (An du (du + 1) (.slice pa3 nB pc3) nB G q4) := An.new HG5.out.L hA hO
        replace HG5 : Hid (G10 w b0 du (du + 1) cc 0 (.int .i64 r) (.int .i64 m) (.slice aP nB cP) (.slice aB nB cB) q4) := HG5.out.later hb
        refine hK.out _ _ ⟨HG5.out.X, HG5.out.O⟩ (fun HS => ?_)
        clear hK K
        replace P1 : Hid (An du (du + 1) (.slice pa1 nB pc1) nB P q4) := P1.out.later hb
        replace P2 : Hid (An du (du + 1) (.slice pa2 nB pc2) nB B q4) := P2.out.later hb
        replace HN5 : Hid (N10 bn (du + 1) (.slice a1 nB z1) (.slice a2 nB z2) nB FP FB q4) := HN5.out.later hb
        replace HT : Hid (Y2 bt (.slice none 0 0) (.slice none 0 0) q4) := HT.out.later hb
        clear hA hO hb
        try simp only [Act.put, List.getElem_toArray, List.getElem_cons_succ, List.getElem_cons_zero, List.setIfInBounds_toArray, List.set_cons_zero, List.set_cons_succ]
        refine wpAnyH_ready (rs := [14]) (by kernel_rfl) (by simp) ?_
        refine AllReadyH.cons rfl (fun K hK => ?_) AllReadyH.nil
        go_simp
        refine (CV.out _ _ _ _ _ HG5.out P1.out P2.out P3.out).mono ?_
        rintro e q5 ⟨u1, u2, y1, y2, rfl, hA, hB', hO, hU⟩
        have hlt := HT.out.lt
        have HR : Hid (Ar q5 (.slice u1 nB y1) nB FP ∧ Ar q5 (.slice u2 nB y2) nB FB ∧ Nb (.slice u1 nB y1) bt ∧ Nb (.slice u2 nB y2) bt) := ⟨hA, hB', ow_apart hO.1 hlt, ow_apart hO.2 hlt⟩
        replace HG5 : Hid (G10 w b0 du (du + 1) cc cc (.int .i64 r) (.int .i64 m) (.slice aP nB cP) (.slice aB nB cB) q5) := HG5.out.unv HD.out hU
        refine hK.out _ _ ⟨HG5.out.X, HG5.out.O⟩ (fun HS => ?_)
        clear hK K
        replace HN5 : Hid (N10 bn (du + 1) (.slice a1 nB z1) (.slice a2 nB z2) nB FP FB q5) := HN5.out.unv hU
        replace HT : Hid (Y2 bt (.slice none 0 0) (.slice none 0 0) q5) := HT.out.un hU HF.out.u.2
        clear hlt
        clear hA hB' hO hU P1 P2 P3
        try simp only [Act.put, List.getElem_toArray, List.getElem_cons_succ, List.getElem_cons_zero, List.setIfInBounds_toArray, List.set_cons_zero, List.set_cons_succ]
        have t0 := HT.out.c0
        have t1 := HT.out.c1
        have f0 := HT.out.f0
        have f1 := HT.out.f1
        have K1 : Hid (Y2 bt (.slice u1 nB y1) (.slice u2 nB y2) ((q5.setCell ⟨bt, 0, none⟩ (.slice u1 nB y1)).setCell ⟨bt, 1, none⟩ (.slice u2 nB y2)) ∧ Ar ((q5.setCell ⟨bt, 0, none⟩ (.slice u1 nB y1)).setCell ⟨bt, 1, none⟩ (.slice u2 nB y2)) (.slice u1 nB y1) nB FP ∧ Ar ((q5.setCell ⟨bt, 0, none⟩ (.slice u1 nB y1)).setCell ⟨bt, 1, none⟩ (.slice u2 nB y2)) (.slice u2 nB y2) nB FB) := ⟨(HT.out.set0 _).set1 _, (HR.out.1.set10 _ _ HR.out.2.2.1).set10 _ _ HR.out.2.2.1, (HR.out.2.1.set10 _ _ HR.out.2.2.2).set10 _ _ HR.out.2.2.2⟩
        have K2 : Hid (G10 w b0 du (du + 1) cc cc (.int .i64 r) (.int .i64 m) (.slice aP nB cP) (.slice aB nB cB) ((q5.setCell ⟨bt, 0, none⟩ (.slice u1 nB y1)).setCell ⟨bt, 1, none⟩ (.slice u2 nB y2)) ∧ N10 bn (du + 1) (.slice a1 nB z1) (.slice a2 nB z2) nB FP FB ((q5.setCell ⟨bt, 0, none⟩ (.slice u1 nB y1)).setCell ⟨bt, 1, none⟩ (.slice u2 nB y2))) := ⟨(HG5.out.far (p := ⟨bt, 0, none⟩) HF.out _).far (p := ⟨bt, 1, none⟩) HF.out _, (HN5.out.far (p := ⟨bt, 0, none⟩) HF.out _).far (p := ⟨bt, 1, none⟩) HF.out _⟩
        clear HT HR HG5 HN5 HF
        refine wpAnyH_ready (rs := [16]) (by kernel_rfl) (by simp) ?_
        refine AllReadyH.cons rfl (fun K hK => ?_) AllReadyH.nil
        go_simp
        refine hK.out _ _ ⟨K2.out.1.X, K2.out.1.O⟩ (fun HS => ?_)
        clear hK K t0 t1 f0 f1
        refine wpAnyH_done (by kernel_rfl) ?_ _
        clear HS
        generalize ((q5.setCell ⟨bt, 0, none⟩ (.slice u1 nB y1)).setCell ⟨bt, 1, none⟩ (.slice u2 nB y2)) = wE at *
        go_wp2
        go_meet
        case rel => exact ⟨bt, u1, u2, y1, y2, rfl, K1, K2⟩
    · go_simp
      have HF : Hid (Fr10 w b0 du (du + 1) bn (.slice a1 nB z1) (.slice a2 nB z2) q0.heap.size) := fresh10 HG5.out HN5.out
      have HT : Hid (Y2 q0.heap.size (.slice none 0 0) (.slice none 0 0) (q0.alloc (.cells #[.slice none 0 0, .slice none 0 0] 45))) := Y2.new _ _ _ _
      replace HG5 : Hid (G10 w b0 du (du + 1) cc 0 (.int .i64 r) (.int .i64 m) (.slice aP nB cP) (.slice aB nB cB) (q0.alloc (.cells #[.slice none 0 0, .slice none 0 0] 45))) := HG5.out.later (bel1 _ _)
      refine hK.out _ _ ⟨HG5.out.X, HG5.out.O⟩ (fun HS => ?_)
      clear hK K
      replace HN5 : Hid (N10 bn (du + 1) (.slice a1 nB z1) (.slice a2 nB z2) nB FP FB (q0.alloc (.cells #[.slice none 0 0, .slice none 0 0] 45))) := HN5.out.later (bel1 _ _)
      generalize q0.alloc (.cells #[.slice none 0 0, .slice none 0 0] 45) = q1 at *
      generalize q0.heap.size = bt at *
      try simp only [Act.put, List.getElem_toArray, List.getElem_cons_succ, List.getElem_cons_zero, List.setIfInBounds_toArray, List.set_cons_zero, List.set_cons_succ]
      refine wpAnyH_ready (rs := [7]) (by kernel_rfl) (by simp) ?_
      refine AllReadyH.cons rfl (fun K hK => ?_) AllReadyH.nil
      go_simp
      refine (CP.out _ _ P (HAB.out.1.later HG5.out.L.B)).mono ?_
      rintro e q2 ⟨pv, rfl, hA, hO, hb⟩
      obtain ⟨pa1, pc1, pb1, po1, rfl, -, -, -, -⟩ := id hA
      have P1 : Hid (An du (du + 1) (.slice pa1 nB pc1) nB P q2) := An.new HG5.out.L hA hO
      replace HG5 : Hid (G10 w b0 du (du + 1) cc 0 (.int .i64 r) (.int .i64 m) (.slice aP nB cP) (.slice aB nB cB) q2) := HG5.out.later hb
      refine hK.out _ _ ⟨HG5.out.X, HG5.out.O⟩ (fun HS => ?_)
      clear hK K
      replace HN5 : Hid (N10 bn (du + 1) (.slice a1 nB z1) (.slice a2 nB z2) nB FP FB q2) := HN5.out.later hb
      replace HT : Hid (Y2 bt (.slice none 0 0) (.slice none 0 0) q2) := HT.out.later hb
      clear hA hO hb
      try simp only [Act.put, List.getElem_toArray, List.getElem_cons_succ, List.getElem_cons_zero, List.setIfInBounds_toArray, List.set_cons_zero, List.set_cons_succ]
      refine wpAnyH_ready (rs := [10]) (by kernel_rfl) (by simp) ?_
      refine AllReadyH.cons rfl (fun K hK => ?_) AllReadyH.nil
      go_simp
      refine (CP.out _ _ B (HAB.out.2.1.later HG5.out.L.B)).mono ?_
      rintro e q3 ⟨pv, rfl, hA, hO, hb⟩
      obtain ⟨pa2, pc2, pb2, po2, rfl, -, -, -, -⟩ := id hA
      have P2 : Hid (An du (du + 1) (.slice pa2 nB pc2) nB B q3) := An.new HG5.out.L hA hO
      replace HG5 : Hid (G10 w b0 du (du + 1) cc 0 (.int .i64 r) (.int .i64 m) (.slice aP nB cP) (.slice aB nB cB) q3) := HG5.out.later hb
      refine hK.out _ _ ⟨HG5.out.X, HG5.out.O⟩ (fun HS => ?_)
      clear hK K
      replace P1 : Hid (An du (du + 1) (.slice pa1 nB pc1) nB P q3) := P1.out.later hb
      replace HN5 : Hid (N10 bn (du + 1) (.slice a1 nB z1) (.slice a2 nB z2) nB FP FB q3) := HN5.out.later hb
      replace HT : Hid (Y2 bt (.slice none 0 0) (.slice none 0 0) q3) := HT.out.later hb
      clear hA hO hb
      try simp only [Act.put, List.getElem_toArray, List.getElem_cons_succ, List.getElem_cons_zero, List.setIfInBounds_toArray, List.set_cons_zero, List.set_cons_succ]
      refine wpAnyH_take (i := 11) (v := ?_) rfl (by kernel_rfl) (by kernel_rfl) (by kernel_rfl) (fun _ _ _ h => h) (Or.inl ⟨by kernel_rfl, ?_⟩) HS ?_
      rotate_left
      · (rintro w ⟨⟨x0, x1, -, -⟩, ⟨y0, y1, -, -⟩⟩; go_simp) <;> with_reducible rfl
      try simp only [Act.put, List.getElem_toArray, List.getElem_cons_succ, List.getElem_cons_zero, List.setIfInBounds_toArray, List.set_cons_zero, List.set_cons_succ]
      refine wpAnyH_ready (rs := [13]) (by kernel_rfl) (by simp) ?_
      refine AllReadyH.cons rfl (fun K hK => ?_) AllReadyH.nil
      go_simp
      refine (CP.out _ _ G (HAB.out.2.2.later HG5.out.L.B)).mono ?_
      rintro e q4 ⟨pv, rfl, hA, hO, hb⟩
      obtain ⟨pa3, pc3, pb3, po3, rfl, -, -, -, -⟩ := id hA
      have P3 : Hid (An du (du + 1) (.slice pa3 nB pc3) nB G q4) := An.new HG5.out.L hA hO
      replace HG5 : Hid (G10 w b0 du (du + 1) cc 0 (.int .i64 r) (.int .i64 m) (.slice aP nB cP) (.slice aB nB cB) q4) := HG5.out.later hb
      refine hK.out _ _ ⟨HG5.out.X, HG5.out.O⟩ (fun HS => ?_)
      clear hK K
      replace P1 : Hid (An du (du + 1) (.slice pa1 nB pc1) nB P q4) := P1.out.later hb
      replace P2 : Hid (An du (du + 1) (.slice pa2 nB pc2) nB B q4) := P2.out.later hb
      replace HN5 : Hid (N10 bn (du + 1) (.slice a1 nB z1) (.slice a2 nB z2) nB FP FB q4) := HN5.out.later hb
      replace HT : Hid (Y2 bt (.slice none 0 0) (.slice none 0 0) q4) := HT.out.later hb
      clear hA hO hb
      try simp only [Act.put, List.getElem_toArray, List.getElem_cons_succ, List.getElem_cons_zero, List.setIfInBounds_toArray, List.set_cons_zero, List.set_cons_succ]
      refine wpAnyH_ready (rs := [14]) (by kernel_rfl) (by simp) ?_
      refine AllReadyH.cons rfl (fun K hK => ?_) AllReadyH.nil
      go_simp
      refine (CV.out _ _ _ _ _ HG5.out P1.out P2.out P3.out).mono ?_
      rintro e q5 ⟨u1, u2, y1, y2, rfl, hA, hB', hO, hU⟩
      have hlt := HT.out.lt
      have HR : Hid (Ar q5 (.slice u1 nB y1) nB FP ∧ Ar q5 (.slice u2 nB y2) nB FB ∧ Nb (.slice u1 nB y1) bt ∧ Nb (.slice u2 nB y2) bt) := ⟨hA, hB', ow_apart hO.1 hlt, ow_apart hO.2 hlt⟩
      replace HG5 : Hid (G10 w b0 du (du + 1) cc cc (.int .i64 r) (.int .i64 m) (.slice aP nB cP) (.slice aB nB cB) q5) := HG5.out.unv HD.out hU
      refine hK.out _ _ ⟨HG5.out.X, HG5.out.O⟩ (fun HS => ?_)
      clear hK K
      replace HN5 : Hid (N10 bn (du + 1) (.slice a1 nB z1) (.slice a2 nB z2) nB FP FB q5) := HN5.out.unv hU
      replace HT : Hid (Y2 bt (.slice none 0 0) (.slice none 0 0) q5) := HT.out.un hU HF.out.u.2
      clear hlt
      clear hA hB' hO hU P1 P2 P3
      try simp only [Act.put, List.getElem_toArray, List.getElem_cons_succ, List.getElem_cons_zero, List.setIfInBounds_toArray, List.set_cons_zero, List.set_cons_succ]
      have t0 := HT.out.c0
      have t1 := HT.out.c1
      have f0 := HT.out.f0
      have f1 := HT.out.f1
      have K1 : Hid (Y2 bt (.slice u1 nB y1) (.slice u2 nB y2) ((q5.setCell ⟨bt, 0, none⟩ (.slice u1 nB y1)).setCell ⟨bt, 1, none⟩ (.slice u2 nB y2)) ∧ Ar ((q5.setCell ⟨bt, 0, none⟩ (.slice u1 nB y1)).setCell ⟨bt, 1, none⟩ (.slice u2 nB y2)) (.slice u1 nB y1) nB FP ∧ Ar ((q5.setCell ⟨bt, 0, none⟩ (.slice u1 nB y1)).setCell ⟨bt, 1, none⟩ (.slice u2 nB y2)) (.slice u2 nB y2) nB FB) := ⟨(HT.out.set0 _).set1 _, (HR.out.1.set10 _ _ HR.out.2.2.1).set10 _ _ HR.out.2.2.1, (HR.out.2.1.set10 _ _ HR.out.2.2.2).set10 _ _ HR.out.2.2.2⟩
      have K2 : Hid (G10 w b0 du (du + 1) cc cc (.int .i64 r) (.int .i64 m) (.slice aP nB cP) (.slice aB nB cB) ((q5.setCell ⟨bt, 0, none⟩ (.slice u1 nB y1)).setCell ⟨bt, 1, none⟩ (.slice u2 nB y2)) ∧ N10 bn (du + 1) (.slice a1 nB z1) (.slice a2 nB z2) nB FP FB ((q5.setCell ⟨bt, 0, none⟩ (.slice u1 nB y1)).setCell ⟨bt, 1, none⟩ (.slice u2 nB y2))) := ⟨(HG5.out.far (p := ⟨bt, 0, none⟩) HF.out _).far (p := ⟨bt, 1, none⟩) HF.out _, (HN5.out.far (p := ⟨bt, 0, none⟩) HF.out _).far (p := ⟨bt, 1, none⟩) HF.out _⟩
      clear HT HR HG5 HN5 HF
      refine wpAnyH_ready (rs := [16]) (by kernel_rfl) (by simp) ?_
      refine AllReadyH.cons rfl (fun K hK => ?_) AllReadyH.nil
      go_simp
      refine hK.out _ _ ⟨K2.out.1.X, K2.out.1.O⟩ (fun HS => ?_)
      clear hK K t0 t1 f0 f1
      refine wpAnyH_done (by kernel_rfl) ?_ _
      clear HS
      generalize ((q5.setCell ⟨bt, 0, none⟩ (.slice u1 nB y1)).setCell ⟨bt, 1, none⟩ (.slice u2 nB y2)) = wE at *
      go_wp2
      go_meet
      case rel => exact ⟨bt, u1, u2, y1, y2, rfl, K1, K2⟩
  case rest =>
    obtain ⟨bt, u1, u2, y1, y2, rfl, HV, HW⟩ := hcut
    clear HG5 HN5 hbD CV CP
    go_upto_region 15 with fail
    have hbD : Below wc.heap.size wc wc.drew := (Below.refl _ _).drew
    have HS0 : K15 bn bt (du + 1) cc (.slice a1 nB z1) (.slice a2 nB z2) (.slice u1 nB y1) (.slice u2 nB y2) wc := ⟨HW.out.2.Y.c0, HW.out.2.Y.c1, HV.out.1.c0, HV.out.1.c1, HW.out.1.L.v.1⟩
    have HQ : Hid (Below w.heap.size w wc.drew ∧ Uc wc.drew du cc ∧ (Ar wc.drew (.slice a1 nB z1) nB FP ∧ Ar wc.drew (.slice a2 nB z2) nB FB) ∧ Ar wc.drew (.slice u1 nB y1) nB FP ∧ Ar wc.drew (.slice u2 nB y2) nB FB) := ⟨bchain HW.out.1.L.B hbD, HW.out.1.L.u.later hbD, ⟨HW.out.2.a.later hbD, HW.out.2.b.later hbD⟩, HV.out.2.1.later hbD, HV.out.2.2.later hbD⟩
    refine wp_region_held_drew (S := K15 bn bt (du + 1) cc (.slice a1 nB z1) (.slice a2 nB z2) (.slice u1 nB y1) (.slice u2 nB y2)) (by kernel_rfl) (HS0.later hbD) (fun HS => ?_)
    clear hbD HS0 HV HW
    generalize wc.drew = q0 at *
    refine wpAnyH_take (i := 0) (v := ?v11) rfl (by kernel_rfl) (by kernel_rfl) (by kernel_rfl) (fun _ _ _ h => h) (Or.inl ⟨by kernel_rfl, ?h11⟩) HS ?r11
    case h11 => (rintro w ⟨n0, n1, t0, t1, v0⟩; go_simp) <;> with_reducible rfl
    try simp only [Act.put, List.getElem_toArray, List.getElem_cons_succ, List.getElem_cons_zero, List.setIfInBounds_toArray, List.set_cons_zero, List.set_cons_succ]
    refine wpAnyH_take (i := 1) (v := ?v12) rfl (by kernel_rfl) (by kernel_rfl) (by kernel_rfl) (fun _ _ _ h => h) (Or.inl ⟨by kernel_rfl, ?h12⟩) HS ?r12
    case h12 => (rintro w ⟨n0, n1, t0, t1, v0⟩; go_simp) <;> with_reducible rfl
    try simp only [Act.put, List.getElem_toArray, List.getElem_cons_succ, List.getElem_cons_zero, List.setIfInBounds_toArray, List.set_cons_zero, List.set_cons_succ]
    refine wpAnyH_take (i := 2) (v := ?v13) rfl (by kernel_rfl) (by kernel_rfl) (by kernel_rfl) (fun _ _ _ h => h) (Or.inl ⟨by kernel_rfl, ?h13⟩) HS ?r13
    case h13 => (rintro w ⟨n0, n1, t0, t1, v0⟩; go_simp) <;> with_reducible rfl
    try simp only [Act.put, List.getElem_toArray, List.getElem_cons_succ, List.getElem_cons_zero, List.setIfInBounds_toArray, List.set_cons_zero, List.set_cons_succ]
    refine wpAnyH_take (i := 3) (v := ?v14) rfl (by kernel_rfl) (by kernel_rfl) (by kernel_rfl) (fun _ _ _ h => h) (Or.inl ⟨by kernel_rfl, ?h14⟩) HS ?r14
    case h14 => (rintro w ⟨n0, n1, t0, t1, v0⟩; go_simp) <;> with_reducible rfl
    try simp only [Act.put, List.getElem_toArray, List.getElem_cons_succ, List.getElem_cons_zero, List.setIfInBounds_toArray, List.set_cons_zero, List.set_cons_succ]
    refine wpAnyH_take (i := 4) (v := ?v15) rfl (by kernel_rfl) (by kernel_rfl) (by kernel_rfl) (fun _ _ _ h => h) (Or.inl ⟨by kernel_rfl, ?h15⟩) HS ?r15
    case h15 => (rintro w ⟨n0, n1, t0, t1, v0⟩; go_simp) <;> with_reducible rfl
    try simp only [Act.put, List.getElem_toArray, List.getElem_cons_succ, List.getElem_cons_zero, List.setIfInBounds_toArray, List.set_cons_zero, List.set_cons_succ]
    refine wpAnyH_ready (rs := [5]) (by kernel_rfl) (by simp) ?_
    refine AllReadyH.cons rfl (fun K hK => ?_) AllReadyH.nil
    go_simp
    refine (CL.out _ _ _ _ _ FP FB HQ.out.2.2.1.1 HQ.out.2.2.1.2 HQ.out.2.2.2.1 HQ.out.2.2.2.2).mono ?_
    rintro e qa ⟨rfl, hb⟩
    refine hK.out _ _ (HS.later hb) (fun HS => ?_)
    clear hK K
    have HZ : Hid (Below w.heap.size w qa ∧ Uc qa du cc) := ⟨bchain HQ.out.1 hb, HQ.out.2.1.later hb⟩
    clear hb HQ CL
    try simp only [Act.put, List.getElem_toArray, List.getElem_cons_succ, List.getElem_cons_zero, List.setIfInBounds_toArray, List.set_cons_zero, List.set_cons_succ]
    refine wpAnyH_take (i := 6) (v := ?v16) rfl (by kernel_rfl) (by kernel_rfl) (by kernel_rfl) (fun _ _ _ h => h) (Or.inl ⟨by kernel_rfl, ?h16⟩) HS ?r16
    case h16 => (rintro w ⟨n0, n1, t0, t1, v0⟩; go_simp) <;> with_reducible rfl
    try simp only [Act.put, List.getElem_toArray, List.getElem_cons_succ, List.getElem_cons_zero, List.setIfInBounds_toArray, List.set_cons_zero, List.set_cons_succ]
    refine wpAnyH_take (i := 7) (v := ?v17) rfl (by kernel_rfl) (by kernel_rfl) (by kernel_rfl) (fun _ _ _ h => h) (Or.inl ⟨by kernel_rfl, ?h17⟩) HS ?r17
    case h17 => (rintro w ⟨n0, n1, t0, t1, v0⟩; go_simp) <;> with_reducible rfl
    try simp only [Act.put, List.getElem_toArray, List.getElem_cons_succ, List.getElem_cons_zero, List.setIfInBounds_toArray, List.set_cons_zero, List.set_cons_succ]
    refine wpAnyH_take (i := 8) (v := ?v18) rfl (by kernel_rfl) (by kernel_rfl) (by kernel_rfl) (fun _ _ _ h => h) (Or.inl ⟨by kernel_rfl, ?h18⟩) HS ?r18
    case h18 => (rintro w ⟨n0, n1, t0, t1, v0⟩; go_simp) <;> with_reducible rfl
    try simp only [Act.put, List.getElem_toArray, List.getElem_cons_succ, List.getElem_cons_zero, List.setIfInBounds_toArray, List.set_cons_zero, List.set_cons_succ]
    refine wpAnyH_take (i := 10) (v := ?v19) rfl (by kernel_rfl) (by kernel_rfl) (by kernel_rfl) (fun _ _ _ h => h) (Or.inl ⟨by kernel_rfl, ?h19⟩) HS ?r19
    case h19 => (rintro w ⟨n0, n1, t0, t1, v0⟩; go_simp) <;> with_reducible rfl
    try simp only [Act.put, List.getElem_toArray, List.getElem_cons_succ, List.getElem_cons_zero, List.setIfInBounds_toArray, List.set_cons_zero, List.set_cons_succ]
    refine wpAnyH_take (i := 11) (v := ?v20) rfl (by kernel_rfl) (by kernel_rfl) (by kernel_rfl) (fun _ _ _ h => h) (Or.inl ⟨by kernel_rfl, ?h20⟩) HS ?r20
    case h20 => (rintro w ⟨n0, n1, t0, t1, v0⟩; go_simp) <;> with_reducible rfl
    try simp only [Act.put, List.getElem_toArray, List.getElem_cons_succ, List.getElem_cons_zero, List.setIfInBounds_toArray, List.set_cons_zero, List.set_cons_succ]
    refine wpAnyH_take (i := 12) (v := ?v21) rfl (by kernel_rfl) (by kernel_rfl) (by kernel_rfl) (fun _ _ _ h => h) (Or.inl ⟨by kernel_rfl, ?h21⟩) HS ?r21
    case h21 => (rintro w ⟨n0, n1, t0, t1, v0⟩; go_simp) <;> with_reducible rfl
    try simp only [Act.put, List.getElem_toArray, List.getElem_cons_succ, List.getElem_cons_zero, List.setIfInBounds_toArray, List.set_cons_zero, List.set_cons_succ]
    refine wpAnyH_take (i := 13) (v := ?v22) rfl (by kernel_rfl) (by kernel_rfl) (by kernel_rfl) (fun _ _ _ h => h) (Or.inl ⟨by kernel_rfl, ?h22⟩) HS ?r22
    case h22 => (rintro w ⟨n0, n1, t0, t1, v0⟩; go_simp) <;> with_reducible rfl
    try simp only [Act.put, List.getElem_toArray, List.getElem_cons_succ, List.getElem_cons_zero, List.setIfInBounds_toArray, List.set_cons_zero, List.set_cons_succ]
    refine wpAnyH_ready (rs := [9]) (by kernel_rfl) (by simp) ?_
    refine AllReadyH.cons rfl (fun K hK => ?_) AllReadyH.nil
    go_simp
    refine (count_any du cc _ HZ.out.2.1).mono ?_
    rintro e qb ⟨rfl, rfl⟩
    refine hK.out _ _ HS (fun HS => ?_)
    clear hK K
    try simp only [Act.put, List.getElem_toArray, List.getElem_cons_succ, List.getElem_cons_zero, List.setIfInBounds_toArray, List.set_cons_zero, List.set_cons_succ]
    refine wpAnyH_take (i := 14) (v := ?v23) rfl (by kernel_rfl) (by kernel_rfl) (by kernel_rfl) (fun _ _ _ h => h) (Or.inl ⟨by kernel_rfl, ?h23⟩) HS ?r23
    case h23 => (rintro w ⟨n0, n1, t0, t1, v0⟩; go_simp) <;> with_reducible rfl
    try simp only [Act.put, List.getElem_toArray, List.getElem_cons_succ, List.getElem_cons_zero, List.setIfInBounds_toArray, List.set_cons_zero, List.set_cons_succ]
    refine wpAnyH_take (i := 15) (v := ?v24) rfl (by kernel_rfl) (by kernel_rfl) (by kernel_rfl) (fun _ _ _ h => h) (Or.inl ⟨by kernel_rfl, ?h24⟩) HS ?r24
    case h24 => (rintro w ⟨n0, n1, t0, t1, v0⟩; go_simp) <;> with_reducible rfl
    try simp only [Act.put, List.getElem_toArray, List.getElem_cons_succ, List.getElem_cons_zero, List.setIfInBounds_toArray, List.set_cons_zero, List.set_cons_succ]
    refine wpAnyH_take (i := 16) (v := ?v25) rfl (by kernel_rfl) (by kernel_rfl) (by kernel_rfl) (fun _ _ _ h => h) (Or.inl ⟨by kernel_rfl, ?h25⟩) HS ?r25
    case h25 => (rintro w ⟨n0, n1, t0, t1, v0⟩; go_simp) <;> with_reducible rfl
    try simp only [Act.put, List.getElem_toArray, List.getElem_cons_succ, List.getElem_cons_zero, List.setIfInBounds_toArray, List.set_cons_zero, List.set_cons_succ]
    refine wpAnyH_done (by kernel_rfl) ?_ _
    clear HS
    go_wp2
    go_ret
    exact ⟨rfl, HZ.out.1⟩
end Go.Proofs.Ytfcneciknldohaa
