/-
  The contract of vec's turned.
-/
import Derived.Test.YtldnnjcfihjkdabDoorPWalkN
import Derived.Deep.RegionHeld3
set_option linter.unusedVariables false
set_option linter.unusedSimpArgs false
namespace Go.Proofs.YtldnnjcfihjkdabDoor
open Go.RowKit

/-- What the matrix that is being turned holds, so many rows and parts having come. -/
def tuV (f : Nat → Int) (r c i j q : Nat) : Value := if q % r < i ∨ (q % r = i ∧ q / r < j) then .int .i64 (f (q % r * c + q / r)) else .int .i64 0
structure TuS (w : World) (b o ca r c P M O R g : Nat) (f : Nat → Int) (i j : Nat) (W : World) : Prop where
  m : Rw M P (tuV f r c i j) W
  d : B3 O (.int .i64 (c : Int)) (.int .i64 (r : Int)) (.slice (some ⟨M, 0, none⟩) P P) W
  e : B3 R (.int .i64 0) (.int .i64 0) (.slice none 0 0) W
  g : Rw g r (fun k => .slice (some ⟨b, o + k * c, none⟩) c c) W
  a : Ar W (.slice (some ⟨b, o, none⟩) P ca) P f
  B : Below w.heap.size w W
theorem tu_next (f : Nat → Int) (r c P i : Nat) (hP : P = r * c) (hr : 1 ≤ r) (q : Nat) (hq : q < P) : tuV f r c i c q = tuV f r c (i + 1) 0 q := by
  have h1 : q / r < c := by rw [Nat.div_lt_iff_lt_mul hr, Nat.mul_comm, ← hP]; exact hq
  unfold tuV
  generalize q / r = x at *
  generalize q % r = y at *
  by_cases h : y < i ∨ (y = i ∧ x < c)
  · rw [if_pos h, if_pos (by omega)]
  · rw [if_neg h, if_neg (by omega)]
theorem tu_set (f : Nat → Int) (r c i j q : Nat) (hr : 1 ≤ r) (hi : i < r) : (if q = j * r + i then .int .i64 (f (i * c + j)) else tuV f r c i j q) = tuV f r c i (j + 1) q := by
  have hd := Nat.div_add_mod q r
  by_cases h : q = j * r + i
  · have e1 : q % r = i := by rw [h, Nat.mul_comm, Nat.mul_add_mod, Nat.mod_eq_of_lt hi]
    have e2 : q / r = j := by rw [h, Nat.mul_comm, Nat.mul_add_div hr, Nat.div_eq_of_lt hi, Nat.add_zero]
    unfold tuV
    rw [if_pos h, e1, e2, if_pos (by omega)]
  · have hne : ¬ (q % r = i ∧ q / r = j) := fun x => h (by rw [x.1, x.2, Nat.mul_comm] at hd; omega)
    unfold tuV
    rw [if_neg h]
    clear hd h
    generalize q / r = x at *
    generalize q % r = y at *
    by_cases h2 : y < i ∨ (y = i ∧ x < j)
    · rw [if_pos h2, if_pos (by omega)]
    · rw [if_neg h2, if_neg (by omega)]
theorem tu_at (f : Nat → Int) (r c i j : Nat) (hr : 1 ≤ r) (hi : i < r) : tuV f r c i j (j * r + i) = .int .i64 0 := by
  have e1 : (j * r + i) % r = i := by rw [Nat.mul_comm, Nat.mul_add_mod, Nat.mod_eq_of_lt hi]
  have e2 : (j * r + i) / r = j := by rw [Nat.mul_comm, Nat.mul_add_div hr, Nat.div_eq_of_lt hi, Nat.add_zero]
  unfold tuV
  rw [e1, e2, if_neg (by omega)]
theorem TuS.set {w : World} {b o ca r c P M O R g : Nat} {f : Nat → Int} {i j : Nat} {W : World} (h : TuS w b o ca r c P M O R g f i j W) (hr : 1 ≤ r) (hi : i < r) (hM : w.heap.size ≤ M) (hO : M ≠ O) (hR : M ≠ R) (hg : M ≠ g) (hb : b < w.heap.size) : TuS w b o ca r c P M O R g f i (j + 1) (W.setCell ⟨M, j * r + i, none⟩ (.int .i64 (f (i * c + j)))) where
  m := (h.m.set (j * r + i) (.int .i64 (f (i * c + j)))).congr (fun q hq => tu_set f r c i j q hr hi)
  d := h.d.far _ hO
  e := h.e.far _ hR
  g := h.g.far _ hg
  a := by
    obtain ⟨_, _, _, _, e0, h1, h2, h3, h4⟩ := h.a
    cases e0
    refine ⟨_, _, b, o, rfl, h1, h2, fun _ => rfl, fun k hk => ?_⟩
    have e3 := h3 (by omega)
    cases e3
    exact ⟨cell_set (by show M ≠ b; omega) (h4 k hk).1, (h4 k hk).2⟩
  B := h.B.setCell hM _
set_option maxRecDepth 100000 in
set_option maxHeartbeats 8000000 in
theorem turned_any (b o ca r c : Nat) (f : Nat → Int) (hr1 : 1 ≤ r) (hc1 : 1 ≤ c) (hrc : r * c ≤ 65536) (w : World) (hA : Ar w (.slice (some ⟨b, o, none⟩) (r * c) ca) (r * c) f) :
    Calls Tryd.prog 36 #[.agg #[.int .i64 (r : Int), .int .i64 (c : Int), .slice (some ⟨b, o, none⟩) (r * c) ca]] w fun e w' => ∃ M, e = .returned (.agg #[.int .i64 (c : Int), .int .i64 (r : Int), .slice (some ⟨M, 0, none⟩) (r * c) (r * c)]) ∧ Ar w' (.slice (some ⟨M, 0, none⟩) (r * c) (r * c)) (r * c) (fun q => f (q % r * c + q / r)) ∧ w.heap.size ≤ M ∧ Below w.heap.size w w' := by
  have hr2 : r ≤ 65536 := Nat.le_trans (Nat.le_mul_of_pos_right r hc1) hrc
  have hc2 : c ≤ 65536 := Nat.le_trans (Nat.le_mul_of_pos_left c hr1) hrc
  have HA : Hid (Ar w (.slice (some ⟨b, o, none⟩) (r * c) ca) (r * c) f) := hA
  have hP0 : 1 ≤ r * c := Nat.mul_pos hr1 hc1
  have hbw : b < w.heap.size := by
    obtain ⟨_, _, e, c', -, -⟩ := hA.at 0 (by omega)
    cases e
    exact World.block_lt_of_cell? _ _ c'
  obtain ⟨_, _, _, _, e0, y1, y2, -, -⟩ := hA
  cases e0
  have CRo : Hid (∀ W : World, Calls Tryd.prog 35 #[.agg #[.int .i64 (r : Int), .int .i64 (c : Int), .slice (some ⟨b, o, none⟩) (r * c) ca]] W fun e w' => ∃ g cap', e = .returned (.slice (some ⟨g, 0, none⟩) r cap') ∧ cap' ≤ maxLen ∧ r ≤ cap' ∧ Rw g r (fun k => .slice (some ⟨b, o + k * c, none⟩) c c) w' ∧ W.heap.size ≤ g ∧ Below W.heap.size W w') := fun W => rows_any (r : Int) b o ca r c hc1 hr1 hrc y1 (by unfold maxLen at y2; omega) W
  have hmk := make_fx (r * c) (by omega)
  have HI : Hid (∀ i j, i < r → j < c → j * r + i < r * c ∧ i * c + j < r * c) := fun i j hi hj => by
    have a1 := mv_step j c r hj
    have a2 := mv_step i r c hi
    rw [Nat.mul_comm c r] at a1
    omega
  obtain ⟨P, hP⟩ : ∃ P, r * c = P := ⟨_, rfl⟩
  have HP : Hid (r * c = P) := hP
  rw [hP] at hrc y1 hmk HA CRo HI hP0 ⊢
  clear hP
  unfold maxLen at y2
  have D0 := (B3.new w (.int .i64 (r : Int)) (.int .i64 (c : Int)) (.slice (some ⟨b, o, none⟩) P ca) 34).later (bel1 _ (.cells #[.int .i64 0, .int .i64 0, .slice none 0 0] 34))
  have R0 := B3.new (w.alloc (.cells #[.int .i64 (r : Int), .int .i64 (c : Int), .slice (some ⟨b, o, none⟩) P ca] 34)) (.int .i64 0) (.int .i64 0) (.slice none 0 0) 34
  have HB2 := bel2 w (.cells #[.int .i64 (r : Int), .int .i64 (c : Int), .slice (some ⟨b, o, none⟩) P ca] 34) (.cells #[.int .i64 0, .int .i64 0, .slice none 0 0] 34)
  have HSZ : Hid (w.heap.size + 2 ≤ ((w.alloc (.cells #[.int .i64 (r : Int), .int .i64 (c : Int), .slice (some ⟨b, o, none⟩) P ca] 34)).alloc (.cells #[.int .i64 0, .int .i64 0, .slice none 0 0] 34)).heap.size) := by show _ ≤ _; simp
  simp only [World.size_alloc] at R0
  go_enter Tryd.func36, Tryd.ntmps36
  go_upto_region 1 with fail
  generalize (w.alloc (.cells #[.int .i64 (r : Int), .int .i64 (c : Int), .slice (some ⟨b, o, none⟩) P ca] 34)).alloc (.cells #[.int .i64 0, .int .i64 0, .slice none 0 0] 34) = w2 at *
  have D2 := D0.drew
  have x0 := D2.c0
  have x1 := D2.c1
  have x2 := D2.c2
  have hne := World.new_ne w2 ⟨w.heap.size, 0, none⟩ D0.c0
  dsimp only at hne
  go_region_held3 (fun w' => w'.cell? ⟨w.heap.size, 0, none⟩ = some (.int .i64 (r : Int)) ∧ w'.cell? ⟨w.heap.size, 1, none⟩ = some (.int .i64 (c : Int)) ∧ w'.cell? ⟨w.heap.size, 2, none⟩ = some (.slice (some ⟨b, o, none⟩) P ca))
    (first | exact ⟨x0, x1, x2⟩ | exact ⟨(D0.later (bel1 w2 _)).drew.c0, (D0.later (bel1 w2 _)).drew.c1, (D0.later (bel1 w2 _)).drew.c2⟩ | exact ⟨((D0.later (bel1 w2 _)).later (bel1 _ _)).drew.c0, ((D0.later (bel1 w2 _)).later (bel1 _ _)).drew.c1, ((D0.later (bel1 w2 _)).later (bel1 _ _)).drew.c2⟩ | go_keep)
    (fail)
  · clear hmk
    have RM : Rw w2.heap.size P (tuV f r c 0 0) ((w2.alloc (.cells (madeCells #[.int .i64 0] P) 25)).alloc (.cells #[.int .i64 (c : Int), .int .i64 (r : Int), .slice (some ⟨w2.heap.size, 0, none⟩) P P] 34)).drew := by
      have h := ((Rw.made w2 (.int .i64 0) P 25).later (bel1 _ (.cells #[.int .i64 (c : Int), .int .i64 (r : Int), .slice (some ⟨w2.heap.size, 0, none⟩) P P] 34))).later ((Below.refl _ _).drew)
      exact h.congr (fun q hq => by unfold tuV; rw [if_neg (fun h => by rcases h with h | ⟨_, h⟩ <;> exact absurd h (Nat.not_lt_zero _))])
    have DO : B3 (w2.heap.size + 1) (.int .i64 (c : Int)) (.int .i64 (r : Int)) (.slice (some ⟨w2.heap.size, 0, none⟩) P P) ((w2.alloc (.cells (madeCells #[.int .i64 0] P) 25)).alloc (.cells #[.int .i64 (c : Int), .int .i64 (r : Int), .slice (some ⟨w2.heap.size, 0, none⟩) P P] 34)).drew := by
      have h := (B3.new (w2.alloc (.cells (madeCells #[.int .i64 0] P) 25)) (.int .i64 (c : Int)) (.int .i64 (r : Int)) (.slice (some ⟨w2.heap.size, 0, none⟩) P P) 34).drew
      rw [World.size_alloc] at h
      exact h
    have HB25 : Below w2.heap.size w2 ((w2.alloc (.cells (madeCells #[.int .i64 0] P) 25)).alloc (.cells #[.int .i64 (c : Int), .int .i64 (r : Int), .slice (some ⟨w2.heap.size, 0, none⟩) P P] 34)).drew := (bel2 w2 _ _).drew
    have DR := R0.later HB25
    have D5 := D0.later HB25
    have HB5 : Hid (Below w.heap.size w _) := bchain HB2 HB25
    have HA5 : Hid (Ar _ (.slice (some ⟨b, o, none⟩) P ca) P f) := HA.out.later HB5.out
    have hs5 : w2.heap.size + 2 ≤ ((w2.alloc (.cells (madeCells #[.int .i64 0] P) 25)).alloc (.cells #[.int .i64 (c : Int), .int .i64 (r : Int), .slice (some ⟨w2.heap.size, 0, none⟩) P P] 34)).drew.heap.size := by simp
    clear HB25 D2 x0 x1 x2 hne D0 R0 HB2
    generalize ((w2.alloc (.cells (madeCells #[.int .i64 0] P) 25)).alloc (.cells #[.int .i64 (c : Int), .int .i64 (r : Int), .slice (some ⟨w2.heap.size, 0, none⟩) P P] 34)).drew = W5 at *
    generalize w2.heap.size = m0 at *
    have hm0 := HSZ.out
    have x0 := D5.c0
    have x1 := D5.c1
    have x2 := D5.c2
    go_wp2_with fail
    refine (CRo.out _).mono ?_
    rintro e w6 ⟨g, cap', rfl, h2, h1, hRw, hg, hb6⟩
    have HT : Hid (TuS w b o ca r c P m0 (m0 + 1) (w.heap.size + 1) g f 0 0 w6) := ⟨RM.later hb6, DO.later hb6, DR.later hb6, hRw, HA5.out.later hb6, bchain HB5.out hb6⟩
    unfold maxLen at h2
    clear hb6 hRw RM DO DR D5 x0 x1 x2 HB5 HA5 CRo HA
    go_wp2
    go_loopw [20] (fun si wr => ∃ i : Nat, i ≤ r ∧ si = .int .i64 (i : Int) ∧ Hid (TuS w b o ca r c P m0 (m0 + 1) (w.heap.size + 1) g f i 0 wr)) (fun si _ => r - (intOf si).toNat)
    case atStart => exact ⟨0, by omega, rfl, HT⟩
    case round =>
      clear HT
      obtain ⟨i, hi, rfl, hT⟩ := hrel
      by_cases hlt : i < r
      · have hiI : (i : Int) < (r : Int) := by omega
        have cG := hT.out.g.c i hlt
        rename World => wo
        go_wp2
        go_loopw [27] (fun si wr => ∃ j : Nat, j ≤ c ∧ si = .int .i64 (j : Int) ∧ Hid (TuS w b o ca r c P m0 (m0 + 1) (w.heap.size + 1) g f i j wr)) (fun si _ => c - (intOf si).toNat)
        case atStart => exact ⟨0, by omega, rfl, hT⟩
        case round =>
          clear hT cG
          obtain ⟨j, hj, rfl, hT⟩ := hrel
          by_cases hlt2 : j < c
          · have hjI : (j : Int) < (c : Int) := by omega
            obtain ⟨q1, q2⟩ := HI.out i j hlt hlt2
            obtain ⟨_, _, e0, cA, a0, a1⟩ := hT.out.a.at (i * c + j) q2
            cases e0
            rw [← Nat.add_assoc] at cA
            have cM := hT.out.m.c (j * r + i) q1
            rw [tu_at f r c i j hr1 hlt] at cM
            have fM := hT.out.m.f (j * r + i) q1
            have z1 := hT.out.d.c1
            have z2 := hT.out.d.c2
            have hT2 : Hid (TuS w b o ca r c P m0 (m0 + 1) (w.heap.size + 1) g f i (j + 1) (wr.setCell ⟨m0, j * r + i, none⟩ (.int .i64 (f (i * c + j))))) := hT.out.set hr1 hlt (by omega) (by omega) (by omega) (by omega) hbw
            obtain ⟨z, hz⟩ : ∃ z : Nat, j * r = z := ⟨_, rfl⟩
            have hzI : (j : Int) * (r : Int) = (z : Int) := by rw [← hz, Int.natCast_mul]
            rw [hz] at q1 cM fM hT2
            have hzP : z + i < P := q1
            clear hz hT q1 q2
            generalize f (i * c + j) = y at *
            generalize o + i * c = oi at *
            go_wp2
            go_roundw
            case rel => exact ⟨j + 1, by omega, by go_num, hT2⟩
            case measure => simp [intOf]; omega
          · obtain rfl : j = c := by omega
            have hjI : ¬ (j : Int) < (j : Int) := by omega
            have hT3 : Hid (TuS w b o ca r j P m0 (m0 + 1) (w.heap.size + 1) g f (i + 1) 0 wr) := ⟨hT.out.m.congr (fun q hq => tu_next f r j P i HP.out.symm hr1 q hq), hT.out.d, hT.out.e, hT.out.g, hT.out.a, hT.out.B⟩
            clear hT
            go_wp2
            go_roundw
            case rel => exact ⟨i + 1, by omega, by go_num, hT3⟩
            case measure => simp [intOf]; omega
      · obtain rfl : i = r := by omega
        have hiI : ¬ (i : Int) < (i : Int) := by omega
        have u0 := hT.out.d.c0
        have u1 := hT.out.d.c1
        have u2 := hT.out.d.c2
        have v0 := hT.out.e.c0
        have v1 := hT.out.e.c1
        have v2 := hT.out.e.c2
        have f0 := hT.out.e.f0
        have f1 := hT.out.e.f1
        have f2 := hT.out.e.f2
        have S0 := ((hT.out.e.set0 (.int .i64 (c : Int))).set1 (.int .i64 (i : Int))).set2 (.slice (some ⟨m0, 0, none⟩) P P)
        have s0 := S0.c0
        have s1 := S0.c1
        have s2 := S0.c2
        have HM : Hid (Ar wr (.slice (some ⟨m0, 0, none⟩) P P) P (fun q => f (q % i * c + q / i))) := (hT.out.m.congr (fun q hq => by unfold tuV; rw [if_pos (Or.inl (Nat.mod_lt _ (by omega)))])).ar (by omega) (fun q hq => by
          obtain ⟨_, _, _, _, _, _, _, _, hx⟩ := hT.out.a
          have h1 : q / i < c := by rw [Nat.div_lt_iff_lt_mul (by omega), Nat.mul_comm, HP.out]; exact hq
          exact (hx _ (HI.out (q % i) (q / i) (Nat.mod_lt _ (by omega)) h1).2).2)
        have HBf : Hid (Below w.heap.size w wr) := hT.out.B
        clear hT S0
        go_wp2
        exact bodyPost_ret (v := .agg #[.int .i64 (c : Int), .int .i64 (i : Int), .slice (some ⟨m0, 0, none⟩) P P]) (by simp [results, Tryd.results36, go_sem, s0, s1, s2] <;> rfl) rfl ⟨m0, rfl, ((HM.out.far _ (by dsimp only; omega)).far _ (by dsimp only; omega)).far _ (by dsimp only; omega), by omega, ((HBf.out.setCell (by dsimp only; omega) _).setCell (by dsimp only; omega) _).setCell (by dsimp only; omega) _⟩
  · clear hmk
    have RM : Rw (w2.heap.size + 1) P (tuV f r c 0 0) ((w2.alloc (.cells #[.int .i64 (c : Int), .int .i64 (r : Int), .slice (some ⟨(w2.heap.size + 1), 0, none⟩) P P] 34)).alloc (.cells (madeCells #[.int .i64 0] P) 25)).drew := by
      have h := (Rw.made (w2.alloc (.cells #[.int .i64 (c : Int), .int .i64 (r : Int), .slice (some ⟨(w2.heap.size + 1), 0, none⟩) P P] 34)) (.int .i64 0) P 25).later ((Below.refl _ _).drew)
      rw [World.size_alloc] at h
      exact h.congr (fun q hq => by unfold tuV; rw [if_neg (fun h => by rcases h with h | ⟨_, h⟩ <;> exact absurd h (Nat.not_lt_zero _))])
    have DO : B3 w2.heap.size (.int .i64 (c : Int)) (.int .i64 (r : Int)) (.slice (some ⟨(w2.heap.size + 1), 0, none⟩) P P) ((w2.alloc (.cells #[.int .i64 (c : Int), .int .i64 (r : Int), .slice (some ⟨(w2.heap.size + 1), 0, none⟩) P P] 34)).alloc (.cells (madeCells #[.int .i64 0] P) 25)).drew := by
      exact ((B3.new w2 (.int .i64 (c : Int)) (.int .i64 (r : Int)) (.slice (some ⟨w2.heap.size + 1, 0, none⟩) P P) 34).later (bel1 _ _)).drew
    have HB25 : Below w2.heap.size w2 ((w2.alloc (.cells #[.int .i64 (c : Int), .int .i64 (r : Int), .slice (some ⟨(w2.heap.size + 1), 0, none⟩) P P] 34)).alloc (.cells (madeCells #[.int .i64 0] P) 25)).drew := (bel2 w2 _ _).drew
    have DR := R0.later HB25
    have D5 := D0.later HB25
    have HB5 : Hid (Below w.heap.size w _) := bchain HB2 HB25
    have HA5 : Hid (Ar _ (.slice (some ⟨b, o, none⟩) P ca) P f) := HA.out.later HB5.out
    have hs5 : w2.heap.size + 2 ≤ ((w2.alloc (.cells #[.int .i64 (c : Int), .int .i64 (r : Int), .slice (some ⟨(w2.heap.size + 1), 0, none⟩) P P] 34)).alloc (.cells (madeCells #[.int .i64 0] P) 25)).drew.heap.size := by simp
    clear HB25 D2 x0 x1 x2 hne D0 R0 HB2
    generalize ((w2.alloc (.cells #[.int .i64 (c : Int), .int .i64 (r : Int), .slice (some ⟨(w2.heap.size + 1), 0, none⟩) P P] 34)).alloc (.cells (madeCells #[.int .i64 0] P) 25)).drew = W5 at *
    generalize w2.heap.size = m0 at *
    have hm0 := HSZ.out
    have x0 := D5.c0
    have x1 := D5.c1
    have x2 := D5.c2
    go_wp2_with fail
    refine (CRo.out _).mono ?_
    rintro e w6 ⟨g, cap', rfl, h2, h1, hRw, hg, hb6⟩
    have HT : Hid (TuS w b o ca r c P (m0 + 1) m0 (w.heap.size + 1) g f 0 0 w6) := ⟨RM.later hb6, DO.later hb6, DR.later hb6, hRw, HA5.out.later hb6, bchain HB5.out hb6⟩
    unfold maxLen at h2
    clear hb6 hRw RM DO DR D5 x0 x1 x2 HB5 HA5 CRo HA
    go_wp2
    go_loopw [20] (fun si wr => ∃ i : Nat, i ≤ r ∧ si = .int .i64 (i : Int) ∧ Hid (TuS w b o ca r c P (m0 + 1) m0 (w.heap.size + 1) g f i 0 wr)) (fun si _ => r - (intOf si).toNat)
    case atStart => exact ⟨0, by omega, rfl, HT⟩
    case round =>
      clear HT
      obtain ⟨i, hi, rfl, hT⟩ := hrel
      by_cases hlt : i < r
      · have hiI : (i : Int) < (r : Int) := by omega
        have cG := hT.out.g.c i hlt
        rename World => wo
        go_wp2
        go_loopw [27] (fun si wr => ∃ j : Nat, j ≤ c ∧ si = .int .i64 (j : Int) ∧ Hid (TuS w b o ca r c P (m0 + 1) m0 (w.heap.size + 1) g f i j wr)) (fun si _ => c - (intOf si).toNat)
        case atStart => exact ⟨0, by omega, rfl, hT⟩
        case round =>
          clear hT cG
          obtain ⟨j, hj, rfl, hT⟩ := hrel
          by_cases hlt2 : j < c
          · have hjI : (j : Int) < (c : Int) := by omega
            obtain ⟨q1, q2⟩ := HI.out i j hlt hlt2
            obtain ⟨_, _, e0, cA, a0, a1⟩ := hT.out.a.at (i * c + j) q2
            cases e0
            rw [← Nat.add_assoc] at cA
            have cM := hT.out.m.c (j * r + i) q1
            rw [tu_at f r c i j hr1 hlt] at cM
            have fM := hT.out.m.f (j * r + i) q1
            have z1 := hT.out.d.c1
            have z2 := hT.out.d.c2
            have hT2 : Hid (TuS w b o ca r c P (m0 + 1) m0 (w.heap.size + 1) g f i (j + 1) (wr.setCell ⟨(m0 + 1), j * r + i, none⟩ (.int .i64 (f (i * c + j))))) := hT.out.set hr1 hlt (by omega) (by omega) (by omega) (by omega) hbw
            obtain ⟨z, hz⟩ : ∃ z : Nat, j * r = z := ⟨_, rfl⟩
            have hzI : (j : Int) * (r : Int) = (z : Int) := by rw [← hz, Int.natCast_mul]
            rw [hz] at q1 cM fM hT2
            have hzP : z + i < P := q1
            clear hz hT q1 q2
            generalize f (i * c + j) = y at *
            generalize o + i * c = oi at *
            go_wp2
            go_roundw
            case rel => exact ⟨j + 1, by omega, by go_num, hT2⟩
            case measure => simp [intOf]; omega
          · obtain rfl : j = c := by omega
            have hjI : ¬ (j : Int) < (j : Int) := by omega
            have hT3 : Hid (TuS w b o ca r j P (m0 + 1) m0 (w.heap.size + 1) g f (i + 1) 0 wr) := ⟨hT.out.m.congr (fun q hq => tu_next f r j P i HP.out.symm hr1 q hq), hT.out.d, hT.out.e, hT.out.g, hT.out.a, hT.out.B⟩
            clear hT
            go_wp2
            go_roundw
            case rel => exact ⟨i + 1, by omega, by go_num, hT3⟩
            case measure => simp [intOf]; omega
      · obtain rfl : i = r := by omega
        have hiI : ¬ (i : Int) < (i : Int) := by omega
        have u0 := hT.out.d.c0
        have u1 := hT.out.d.c1
        have u2 := hT.out.d.c2
        have v0 := hT.out.e.c0
        have v1 := hT.out.e.c1
        have v2 := hT.out.e.c2
        have f0 := hT.out.e.f0
        have f1 := hT.out.e.f1
        have f2 := hT.out.e.f2
        have S0 := ((hT.out.e.set0 (.int .i64 (c : Int))).set1 (.int .i64 (i : Int))).set2 (.slice (some ⟨(m0 + 1), 0, none⟩) P P)
        have s0 := S0.c0
        have s1 := S0.c1
        have s2 := S0.c2
        have HM : Hid (Ar wr (.slice (some ⟨(m0 + 1), 0, none⟩) P P) P (fun q => f (q % i * c + q / i))) := (hT.out.m.congr (fun q hq => by unfold tuV; rw [if_pos (Or.inl (Nat.mod_lt _ (by omega)))])).ar (by omega) (fun q hq => by
          obtain ⟨_, _, _, _, _, _, _, _, hx⟩ := hT.out.a
          have h1 : q / i < c := by rw [Nat.div_lt_iff_lt_mul (by omega), Nat.mul_comm, HP.out]; exact hq
          exact (hx _ (HI.out (q % i) (q / i) (Nat.mod_lt _ (by omega)) h1).2).2)
        have HBf : Hid (Below w.heap.size w wr) := hT.out.B
        clear hT S0
        go_wp2
        exact bodyPost_ret (v := .agg #[.int .i64 (c : Int), .int .i64 (i : Int), .slice (some ⟨(m0 + 1), 0, none⟩) P P]) (by simp [results, Tryd.results36, go_sem, s0, s1, s2] <;> rfl) rfl ⟨(m0 + 1), rfl, ((HM.out.far _ (by dsimp only; omega)).far _ (by dsimp only; omega)).far _ (by dsimp only; omega), by omega, ((HBf.out.setCell (by dsimp only; omega) _).setCell (by dsimp only; omega) _).setCell (by dsimp only; omega) _⟩
end Go.Proofs.YtldnnjcfihjkdabDoor
