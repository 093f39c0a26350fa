/-
  The contract of regattaref02's Quo.
-/
import Derived.Test.YtpmlpcejmndidabDoorSWalkI
import Derived.Test.YtpmlpcejmndidabDoorSMath3
set_option linter.unusedVariables false
set_option linter.unusedSimpArgs false
namespace Go.Proofs.YtpmlpcejmndidabDoor
open Go.RowKit

set_option maxHeartbeats 4000000 in
theorem squo_any (p q V B d : Int) (hS : Sm p q V B) (hB : B < 3138550867693340381917894711603833208051177722232017256448) (d0 : -9223372036854775808 ≤ d) (d1 : d ≤ 9223372036854775807) (hd : d ≠ 0) (w : World) :
    Calls Tryd.prog 43 #[.agg #[.int .u64 (dg (p) 0), .int .u64 (dg (p) 1), .int .u64 (dg (p) 2), .int .u64 (dg (p) 3), .int .u64 (dg (p) 4), .int .u64 (dg (p) 5), .int .u64 (dg (q) 0), .int .u64 (dg (q) 1), .int .u64 (dg (q) 2), .int .u64 (dg (q) 3), .int .u64 (dg (q) 4), .int .u64 (dg (q) 5)], .int .i64 d] w fun e w' => e = .returned (.tuple #[.int .i64 (clv (quo V d)), .bool (ovv (quo V d))]) ∧ Below w.heap.size w w' := by
  obtain ⟨p0, q0, p1, q1, hv⟩ := hS
  have W0 := bel1 w (.cells #[.int .u64 (dg (p) 0), .int .u64 (dg (p) 1), .int .u64 (dg (p) 2), .int .u64 (dg (p) 3), .int .u64 (dg (p) 4), .int .u64 (dg (p) 5), .int .u64 (dg (q) 0), .int .u64 (dg (q) 1), .int .u64 (dg (q) 2), .int .u64 (dg (q) 3), .int .u64 (dg (q) 4), .int .u64 (dg (q) 5)] 73)
  have M1 : ab V < 3138550867693340381917894711603833208051177722232017256448 := by unfold ab; split <;> omega
  have M0 := ab_ge' V
  have SWH : Hid (∀ W : World, Calls Tryd.prog 61 #[.agg #[.int .u64 (dg (p) 0), .int .u64 (dg (p) 1), .int .u64 (dg (p) 2), .int .u64 (dg (p) 3), .int .u64 (dg (p) 4), .int .u64 (dg (p) 5), .int .u64 (dg (q) 0), .int .u64 (dg (q) 1), .int .u64 (dg (q) 2), .int .u64 (dg (q) 3), .int .u64 (dg (q) 4), .int .u64 (dg (q) 5)]] W fun e w' => e = .returned (.tuple #[.agg #[.int .u64 (dg (ab V) 0), .int .u64 (dg (ab V) 1), .int .u64 (dg (ab V) 2), .int .u64 (dg (ab V) 3), .int .u64 (dg (ab V) 4), .int .u64 (dg (ab V) 5)], .bool (decide (V < 0))]) ∧ Below W.heap.size W w') := by
    intro W
    rw [← hv]
    exact swhole_any p q p0 (by omega) q0 (by omega) W
  have SZH : Hid (∀ W : World, Calls Tryd.prog 60 #[.int .i64 d] W fun e w' => e = .returned (.int .u64 (ab d)) ∧ w' = W) := fun W => ssize_any d d0 d1 W
  have D0 : 1 ≤ ab d := by unfold ab; split <;> omega
  have D1 := (ab_rng' d d0 d1).2
  have HQ : Hid (quo V d = if (decide (V < 0) != decide (d < 0)) = true then -(if gu (c3 (2 * (ab V % ab d)) (ab d)) (lo (ab V / ab d)) = true then ab V / ab d + 1 else ab V / ab d) else (if gu (c3 (2 * (ab V % ab d)) (ab d)) (lo (ab V / ab d)) = true then ab V / ab d + 1 else ab V / ab d)) := rfl
  clear p0 q0 p1 q1 hv
  generalize ab V = M at *
  generalize ab d = D at *
  generalize decide (V < 0) = bel at *
  go_enter Tryd.func43, Tryd.ntmps43
  go_wp2_with fail
  refine (SWH.out _).mono ?_
  rintro e w1 ⟨rfl, hb⟩
  have A1 := B6.new w1 (dg M) 71
  have W1 := bchain (bchain W0 hb) (bel1 w1 (.cells #[.int .u64 (dg (M) 0), .int .u64 (dg (M) 1), .int .u64 (dg (M) 2), .int .u64 (dg (M) 3), .int .u64 (dg (M) 4), .int .u64 (dg (M) 5)] 71))
  have hs1 := (bchain W0 hb).size
  clear hb W0 SWH
  go_wp2_with fail
  refine (SZH.out _).mono ?_
  rintro e w1' ⟨rfl, hw⟩
  subst hw
  generalize w1.alloc (.cells #[.int .u64 (dg (M) 0), .int .u64 (dg (M) 1), .int .u64 (dg (M) 2), .int .u64 (dg (M) 3), .int .u64 (dg (M) 4), .int .u64 (dg (M) 5)] 71) = w2 at *
  generalize w1.heap.size = x at *
  have A2 := A1.later (bel1 w2 (.cells #[.int .u64 0, .int .u64 0, .int .u64 0, .int .u64 0, .int .u64 0, .int .u64 0] 71))
  have Q2 := B6.new w2 (fun _ => 0) 71
  have W2 := bchain W1 (bel1 w2 (.cells #[.int .u64 0, .int .u64 0, .int .u64 0, .int .u64 0, .int .u64 0, .int .u64 0] 71))
  have hxy := A1.lt
  have hy : w.heap.size ≤ w2.heap.size := W1.size
  clear A1 W1 SZH
  go_wp2
  generalize w2.alloc (.cells #[.int .u64 0, .int .u64 0, .int .u64 0, .int .u64 0, .int .u64 0, .int .u64 0] 71) = w3 at *
  generalize w2.heap.size = y at *
  go_loopw [10, 11] (fun r i wr => B6 x (dg M) wr ∧ Below w.heap.size w wr ∧ ((∃ j : Nat, j < 6 ∧ i = .int .i64 (j : Int) ∧ r = .int .u64 (M / 2 ^ (32 * j + 32) % D) ∧ B6 y (fun k => if j < k then dg (M / D) k else 0) wr) ∨ (i = .int .i64 (-1) ∧ r = .int .u64 (M % D) ∧ B6 y (dg (M / D)) wr))) (fun _ i _ => (intOf i + 1).toNat)
  case atStart =>
    refine ⟨A2, W2, .inl ⟨5, by omega, rfl, ?_, Q2.cong fun k hk => ?_⟩⟩
    · rw [show M / 2 ^ (32 * 5 + 32) = 0 from top_none M M0 (by omega)]
      rfl
    · rw [if_neg (by omega)]
  case round =>
    clear A2 W2 Q2
    obtain ⟨hA, hW, hrel⟩ := hrel
    rcases hrel with ⟨j, hj, rfl, rfl, hQ⟩ | ⟨rfl, rfl, hQ⟩
    · have hj0 : (0 : Int) ≤ (j : Int) := by omega
      have hj6 : (j : Int) < 6 := by omega
      go_wp2
      go_loopw [10, 12] (fun r k wr => B6 x (dg M) wr ∧ Below w.heap.size w wr ∧ ((∃ t : Nat, t < 32 ∧ k = .int .i64 (t : Int) ∧ r = .int .u64 (M / 2 ^ (32 * j + t + 1) % D) ∧ B6 y (fun k => if j < k then dg (M / D) k else if k = j then pq (M / D) j (t + 1) else 0) wr) ∨ (k = .int .i64 (-1) ∧ r = .int .u64 (M / 2 ^ (32 * j) % D) ∧ B6 y (fun k => if j ≤ k then dg (M / D) k else 0) wr))) (fun _ k _ => (intOf k + 1).toNat)
      case atStart =>
        refine ⟨hA, hW, .inl ⟨31, by omega, rfl, rfl, hQ.cong fun k hk => ?_⟩⟩
        by_cases h1 : j < k
        · rw [if_pos h1, if_pos h1]
        · rw [if_neg h1, if_neg h1]
          by_cases h2 : k = j
          · rw [if_pos h2, pq_top]
          · rw [if_neg h2]
      case round =>
        clear hA hW hQ
        obtain ⟨hA, hW, hrel⟩ := hrel
        rcases hrel with ⟨t, ht, rfl, rfl, hQ⟩ | ⟨rfl, rfl, hQ⟩
        · have a0 := hA.c j hj
          have b0 := hQ.c j hj
          have f0 := hQ.f j hj
          rw [if_neg (Nat.lt_irrefl j), if_pos rfl] at b0
          obtain ⟨r0, r1⟩ := pq_rng (M / D) j (t + 1)
          have m0 := Int.emod_nonneg (M / 2 ^ (32 * j + t + 1)) (show D ≠ 0 by omega)
          have m1 := Int.emod_lt_of_pos (M / 2 ^ (32 * j + t + 1)) (show 0 < D by omega)
          have hz := dg_bit M j t ht
          have HB := quo_bit M D j t D0 ht
          have z01 : M / 2 ^ (32 * j + t) % 2 = 0 ∨ M / 2 ^ (32 * j + t) % 2 = 1 := by omega
          obtain ⟨g0, g1⟩ := dg_rng M j
          have hp := pow_pos' t
          have gd0 : 0 ≤ dg M j / 2 ^ t := Int.ediv_nonneg g0 (by omega)
          have tm := Int.tmod_eq_emod_of_nonneg (b := 2) gd0
          rw [hz] at tm
          have HB' : Hid ((D ≤ 2 * (M / 2 ^ (32 * j + t + 1) % D) + M / 2 ^ (32 * j + t) % 2 → M / 2 ^ (32 * j + t) % D = 2 * (M / 2 ^ (32 * j + t + 1) % D) + M / 2 ^ (32 * j + t) % 2 - D ∧ pq (M / D) j t = 2 * pq (M / D) j (t + 1) + 1) ∧ (2 * (M / 2 ^ (32 * j + t + 1) % D) + M / 2 ^ (32 * j + t) % 2 < D → M / 2 ^ (32 * j + t) % D = 2 * (M / 2 ^ (32 * j + t + 1) % D) + M / 2 ^ (32 * j + t) % 2 ∧ pq (M / D) j t = 2 * pq (M / D) j (t + 1))) := HB
          clear HB hz hp gd0
          generalize M / 2 ^ (32 * j + t + 1) % D = r at *
          generalize M / 2 ^ (32 * j + t) % 2 = z at *
          generalize hpq : pq (M / D) j (t + 1) = c at *
          have ht0 : (0 : Int) ≤ (t : Int) := by omega
          have k1 := wrap_small (2 * r) (by omega) (by omega)
          have k2 := wrap_small (2 * r + z) (by omega) (by omega)
          have k3 := wrap_small (2 * c) (by omega) (by omega)
          have k4 := wrap_small (2 * c + 1) (by omega) (by omega)
          have k5 := wrap_small z (by omega) (by omega)
          clear hpq
          by_cases hge : D ≤ 2 * r + z
          · have k6 := wrap_small (2 * r + z - D) (by omega) (by omega)
            have N := (hQ.set j hj (2 * c)).set j hj (2 * c + 1)
            have NA := (hA.far (p := ⟨y, j, none⟩) (.int .u64 (2 * c)) (by dsimp only; omega)).far (p := ⟨y, j, none⟩) (.int .u64 (2 * c + 1)) (by dsimp only; omega)
            have NW := (hW.setCell (p := ⟨y, j, none⟩) (by dsimp only; omega) (.int .u64 (2 * c))).setCell (p := ⟨y, j, none⟩) (by dsimp only; omega) (.int .u64 (2 * c + 1))
            clear hA hW hQ
            go_wp2
            go_roundw
            case rel =>
              obtain ⟨u1, u2⟩ := HB'.out.1 hge
              refine ⟨NA, NW, ?_⟩
              by_cases ht1 : t = 0
              · subst ht1
                refine .inr ⟨rfl, by rw [← u1]; rfl, N.cong fun k hk => ?_⟩
                by_cases hkj : k = j
                · subst hkj
                  rw [if_pos rfl, if_pos (Nat.le_refl _), ← pq_end, u2]
                · rw [if_neg hkj, if_neg hkj]
                  by_cases hl : j < k
                  · rw [if_pos hl, if_pos (by omega)]
                  · rw [if_neg hl, if_neg hkj, if_neg (by omega)]
              · obtain ⟨t', rfl⟩ : ∃ t', t = t' + 1 := ⟨t - 1, by omega⟩
                refine .inl ⟨t', by omega, by rw [show ((t' + 1 : Nat) : Int) - 1 = (t' : Int) by omega], by rw [← u1]; rfl, N.cong fun k hk => ?_⟩
                by_cases hkj : k = j
                · subst hkj
                  rw [if_pos rfl, if_neg (Nat.lt_irrefl _), if_pos rfl, u2]
                · rw [if_neg hkj, if_neg hkj]
                  by_cases hl : j < k
                  · rw [if_pos hl, if_pos hl]
                  · rw [if_neg hl, if_neg hl, if_neg hkj, if_neg hkj]
            case measure => first | (simp [intOf]; done) | (simp [intOf]; omega)
          · have N := hQ.set j hj (2 * c)
            have NA := hA.far (p := ⟨y, j, none⟩) (.int .u64 (2 * c)) (by dsimp only; omega)
            have NW := hW.setCell (p := ⟨y, j, none⟩) (by dsimp only; omega) (.int .u64 (2 * c))
            clear hA hW hQ
            go_wp2
            go_roundw
            case rel =>
              obtain ⟨u1, u2⟩ := HB'.out.2 (by omega)
              refine ⟨NA, NW, ?_⟩
              by_cases ht1 : t = 0
              · subst ht1
                refine .inr ⟨rfl, by rw [← u1]; rfl, N.cong fun k hk => ?_⟩
                by_cases hkj : k = j
                · subst hkj
                  rw [if_pos rfl, if_pos (Nat.le_refl _), ← pq_end, u2]
                · rw [if_neg hkj]
                  by_cases hl : j < k
                  · rw [if_pos hl, if_pos (by omega)]
                  · rw [if_neg hl, if_neg hkj, if_neg (by omega)]
              · obtain ⟨t', rfl⟩ : ∃ t', t = t' + 1 := ⟨t - 1, by omega⟩
                refine .inl ⟨t', by omega, by rw [show ((t' + 1 : Nat) : Int) - 1 = (t' : Int) by omega], by rw [← u1]; rfl, N.cong fun k hk => ?_⟩
                by_cases hkj : k = j
                · subst hkj
                  rw [if_pos rfl, if_neg (Nat.lt_irrefl _), if_pos rfl, u2]
                · rw [if_neg hkj]
                  by_cases hl : j < k
                  · rw [if_pos hl, if_pos hl]
                  · rw [if_neg hl, if_neg hl, if_neg hkj, if_neg hkj]
            case measure => first | (simp [intOf]; done) | (simp [intOf]; omega)
        · go_wp2
          go_roundw
          case rel =>
            refine ⟨hA, hW, ?_⟩
            by_cases hj1 : j = 0
            · subst hj1
              refine .inr ⟨rfl, by rw [Nat.mul_zero, Int.pow_zero, Int.ediv_one], hQ.cong fun k hk => by rw [if_pos (Nat.zero_le _)]⟩
            · obtain ⟨j', rfl⟩ : ∃ j', j = j' + 1 := ⟨j - 1, by omega⟩
              refine .inl ⟨j', by omega, by rw [show ((j' + 1 : Nat) : Int) - 1 = (j' : Int) by omega], by rw [show 32 * (j' + 1) = 32 * j' + 32 by omega], hQ.cong fun k hk => ?_⟩
              by_cases hl : j' < k
              · rw [if_pos hl, if_pos (by omega)]
              · rw [if_neg hl, if_neg (by omega)]
          case measure => first | (simp [intOf]; done) | (simp [intOf]; omega)
    · have m0 := Int.emod_nonneg M (show D ≠ 0 by omega)
      have m1 := Int.emod_lt_of_pos M (show 0 < D by omega)
      have X0 : 0 ≤ M / D := Int.ediv_nonneg M0 (by omega)
      have X1 : M / D ≤ M := Int.ediv_le_self _ M0
      have hpar := dg0_par (M / D)
      obtain ⟨z0, z1⟩ := dg_rng (M / D) 0
      have t1 := Int.tmod_eq_emod_of_nonneg (b := 2) z0
      have t2 := wrap_small (dg (M / D) 0 % 2) (by omega) (by omega)
      have k1 := wrap_small (D - M % D) (by omega) (by omega)
      have HG : gu (c3 (2 * (M % D)) D) (lo (M / D)) = true ↔ D < 2 * (M % D) ∨ (2 * (M % D) = D ∧ M / D % 2 = 1) := by
        rcases (show 2 * (M % D) < D ∨ 2 * (M % D) = D ∨ D < 2 * (M % D) by omega) with h | h | h
        · rw [c3_lt _ _ h]
          constructor
          · intro g; unfold gu at g; simp at g
          · intro g; omega
        · rw [h, c3_self]
          unfold gu
          rw [lo_par]
          simp
        · rw [c3_gt _ _ h]
          unfold gu
          simp
          omega
      have hcase : (D - M % D < M % D ∧ gu (c3 (2 * (M % D)) D) (lo (M / D)) = true) ∨ (M % D = D - M % D ∧ dg (M / D) 0 % 2 = 1 ∧ gu (c3 (2 * (M % D)) D) (lo (M / D)) = true) ∨ (M % D = D - M % D ∧ dg (M / D) 0 % 2 = 0 ∧ ¬ gu (c3 (2 * (M % D)) D) (lo (M / D)) = true) ∨ (M % D < D - M % D ∧ ¬ gu (c3 (2 * (M % D)) D) (lo (M / D)) = true) := by
        rw [HG]
        omega
      clear HG hpar
      generalize gu (c3 (2 * (M % D)) D) (lo (M / D)) = G at *
      generalize M / D = X at *
      generalize M % D = r at *
      have hcase2 : (G = true ∧ (D - r < r ∨ (D - r = r ∧ dg X 0 % 2 = 1))) ∨ (¬ G = true ∧ (r < D - r ∨ (D - r = r ∧ dg X 0 % 2 = 0))) := by
        rcases hcase with ⟨h, hG⟩ | ⟨h, h', hG⟩ | ⟨h, h', hG⟩ | ⟨h, hG⟩
        · exact .inl ⟨hG, .inl h⟩
        · exact .inl ⟨hG, .inr ⟨h.symm, h'⟩⟩
        · exact .inr ⟨hG, .inr ⟨h.symm, h'⟩⟩
        · exact .inr ⟨hG, .inl h⟩
      clear hcase
      clear hA
      rcases hcase2 with ⟨hG, h⟩ | ⟨hG, h⟩
      · have HF : Hid ((if (!(bel == decide (d < 0))) = true then -(X + 1) else X + 1) = quo V d) := by show _ = _; rw [HQ.out, if_pos hG]; rfl
        clear HQ hG
        have CD := hQ.later ((Below.refl _ _).drew : Below wr.heap.size wr wr.drew)
        have CV : Hid (Below w.heap.size w wr.drew) := hW.drew
        have u0 := hQ.c 0 (by omega)
        rcases h with h | ⟨h, h'⟩
        all_goals
          go_upto_region 17 with fail
          clear u0 hQ hW
          have x0 := CD.c 0 (by omega); have x1 := CD.c 1 (by omega); have x2 := CD.c 2 (by omega); have x3 := CD.c 3 (by omega); have x4 := CD.c 4 (by omega); have x5 := CD.c 5 (by omega); have xf0 := CD.f 0 (by omega); have xf1 := CD.f 1 (by omega); have xf2 := CD.f 2 (by omega); have xf3 := CD.f 3 (by omega); have xf4 := CD.f 4 (by omega); have xf5 := CD.f 5 (by omega)
          go_region_with (first
            | (go_at_call 59; refine (sone_10 _).mono ?_; rintro e wz ⟨rfl, hb⟩; clear x0 x1 x2 x3 x4 x5 xf0 xf1 xf2 xf3 xf4 xf5; replace CD := CD.later hb; replace CV := hidD' CV hb; clear hb; have x0 := CD.c 0 (by omega); have x1 := CD.c 1 (by omega); have x2 := CD.c 2 (by omega); have x3 := CD.c 3 (by omega); have x4 := CD.c 4 (by omega); have x5 := CD.c 5 (by omega); have xf0 := CD.f 0 (by omega); have xf1 := CD.f 1 (by omega); have xf2 := CD.f 2 (by omega); have xf3 := CD.f 3 (by omega); have xf4 := CD.f 4 (by omega); have xf5 := CD.f 5 (by omega))
            | (go_at_call 58; refine (splus_any X 1 _).mono ?_; rintro e wz ⟨rfl, hb⟩; clear x0 x1 x2 x3 x4 x5 xf0 xf1 xf2 xf3 xf4 xf5; replace CD := CD.later hb; replace CV := hidD' CV hb; clear hb; have x0 := CD.c 0 (by omega); have x1 := CD.c 1 (by omega); have x2 := CD.c 2 (by omega); have x3 := CD.c 3 (by omega); have x4 := CD.c 4 (by omega); have x5 := CD.c 5 (by omega); have xf0 := CD.f 0 (by omega); have xf1 := CD.f 1 (by omega); have xf2 := CD.f 2 (by omega); have xf3 := CD.f 3 (by omega); have xf4 := CD.f 4 (by omega); have xf5 := CD.f 5 (by omega)))
          all_goals
            have D5 := CD.all (dg (X + 1))
            have W5 := bel6 CV.out hy (dg (X + 1))
            clear x0 x1 x2 x3 x4 x5 xf0 xf1 xf2 xf3 xf4 xf5
            clear CD CV
            generalize ((((((wz.setCell ⟨y, 0, none⟩ (.int .u64 (dg (X + 1) 0))).setCell ⟨y, 1, none⟩ (.int .u64 (dg (X + 1) 1))).setCell ⟨y, 2, none⟩ (.int .u64 (dg (X + 1) 2))).setCell ⟨y, 3, none⟩ (.int .u64 (dg (X + 1) 3))).setCell ⟨y, 4, none⟩ (.int .u64 (dg (X + 1) 4))).setCell ⟨y, 5, none⟩ (.int .u64 (dg (X + 1) 5))) = w10 at *
            have x0 := D5.c 0 (by omega)
            have x1 := D5.c 1 (by omega)
            have x2 := D5.c 2 (by omega)
            have x3 := D5.c 3 (by omega)
            have x4 := D5.c 4 (by omega)
            have x5 := D5.c 5 (by omega)
            clear D5
            go_wp2_with fail
            refine (sclamp_to (X + 1) (!(bel == decide (d < 0))) _ HF.out (by omega) (by omega) _).mono ?_
            rintro e w4 ⟨rfl, hb⟩
            have W4 := bchain W5 hb
            clear hb W5 x0 x1 x2 x3 x4 x5
            go_wp2
            go_ret2
            exact ⟨rfl, W4⟩
      · have HF : Hid ((if (!(bel == decide (d < 0))) = true then -X else X) = quo V d) := by show _ = _; rw [HQ.out, if_neg hG]; rfl
        clear HQ hG
        have x0 := hQ.c 0 (by omega)
        have x1 := hQ.c 1 (by omega)
        have x2 := hQ.c 2 (by omega)
        have x3 := hQ.c 3 (by omega)
        have x4 := hQ.c 4 (by omega)
        have x5 := hQ.c 5 (by omega)
        clear hQ
        rcases h with h | ⟨h, h'⟩
        · have hlt : decide (D - r < r) = false := decide_eq_false (by omega)
          have hne : ¬ r = D - r := by omega
          go_wp2_with fail
          refine (sclamp_to X (!(bel == decide (d < 0))) _ HF.out X0 (by omega) _).mono ?_
          rintro e w4 ⟨rfl, hb⟩
          have W4 := bchain hW hb
          clear hb hW x0 x1 x2 x3 x4 x5
          go_wp2
          go_ret2
          exact ⟨rfl, W4⟩
        · clear k1
          have k1 : IntKind.u64.wrap r = r := wrap_small r m0 (by omega)
          go_wp2_with fail
          refine (sclamp_to X (!(bel == decide (d < 0))) _ HF.out X0 (by omega) _).mono ?_
          rintro e w4 ⟨rfl, hb⟩
          have W4 := bchain hW hb
          clear hb hW x0 x1 x2 x3 x4 x5
          go_wp2
          go_ret2
          exact ⟨rfl, W4⟩
end Go.Proofs.YtpmlpcejmndidabDoor
