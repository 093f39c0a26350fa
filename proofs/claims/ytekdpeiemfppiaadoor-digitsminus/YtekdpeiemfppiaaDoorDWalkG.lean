/-
  The contract of regattaref03's Parse.
-/
import Derived.Test.YtekdpeiemfppiaaDoorDWalkF
set_option linter.unusedVariables false
set_option linter.unusedSimpArgs false
namespace Go.Proofs.YtekdpeiemfppiaaDoor
open Go.RowKit

theorem gb_app (a b : List UInt8) (i : Nat) : gb (a ++ b) i = if i < a.length then gb a i else gb b (i - a.length) := by
  unfold gb
  by_cases h : i < a.length
  · rw [if_pos h]; simp [List.getD, List.getElem?_append_left h]
  · rw [if_neg h]; simp [List.getD, List.getElem?_append_right (Nat.le_of_not_lt h)]
theorem dig_app (a b : List UInt8) (ha : ∀ i, i < a.length → 48 ≤ gb a i ∧ gb a i ≤ 57) (hb : ∀ i, i < b.length → 48 ≤ gb b i ∧ gb b i ≤ 57) : ∀ i, i < (a ++ b).length → 48 ≤ gb (a ++ b) i ∧ gb (a ++ b) i ≤ 57 := by
  intro i hi
  rw [List.length_append] at hi
  rw [gb_app]
  split
  · exact ha i (by omega)
  · exact hb _ (by omega)

set_option maxRecDepth 100000 in
set_option maxHeartbeats 4000000 in
theorem sparse_good (l : List UInt8) (bel : Bool) (a b : List UInt8) (ha : isD a = true) (hb : ∀ i, i < b.length → 48 ≤ gb b i ∧ gb b i ≤ 57) (la : a.length ≤ 20) (lb : b.length ≤ 40)
    (P0 : ∀ W : World, Calls Tryd.prog 18 #[.string (bs l)] W fun e w' => e = .returned (.tuple #[.bool bel, .string (bs a), .string (bs b), .bool true]) ∧ Below W.heap.size W w') (w : World) :
    Calls Tryd.prog 13 #[.string (bs l)] w fun e w' => e = .returned (.tuple #[.int .i64 (clv (if bel = true then -((rq (num (a ++ b) * 4294967296) b.length : Nat) : Int) else ((rq (num (a ++ b) * 4294967296) b.length : Nat) : Int))), .bool (ovv (if bel = true then -((rq (num (a ++ b) * 4294967296) b.length : Nat) : Int) else ((rq (num (a ++ b) * 4294967296) b.length : Nat) : Int))), .int .i64 0]) ∧ Below w.heap.size w w' := by
  obtain ⟨i0, hi, hz0, hz1, hz2⟩ := info_parts dinfo_u64
  have P : Hid (∀ W : World, Calls Tryd.prog 18 #[.string (bs l)] W fun e w' => e = .returned (.tuple #[.bool bel, .string (bs a), .string (bs b), .bool true]) ∧ Below W.heap.size W w') := P0
  have ha1 : 1 ≤ a.length := by
    have := isD_ne a ha
    cases a with
    | nil => exact absurd rfl this
    | cons x t => simp
  have hdig := dig_app a b (fun i hi => isD_at a ha i hi) hb
  obtain ⟨hN1, hN2⟩ := num_all (a ++ b) hdig
  have zab := bs_app a b
  have za := bs_size a
  have zb := bs_size b
  have hlen : (a ++ b).length = a.length + b.length := List.length_append
  obtain ⟨C, hC⟩ : ∃ C, clv (if bel = true then -((rq (num (a ++ b) * 4294967296) b.length : Nat) : Int) else ((rq (num (a ++ b) * 4294967296) b.length : Nat) : Int)) = C := ⟨_, rfl⟩
  obtain ⟨O, hO⟩ : ∃ O, ovv (if bel = true then -((rq (num (a ++ b) * 4294967296) b.length : Nat) : Int) else ((rq (num (a ++ b) * 4294967296) b.length : Nat) : Int)) = O := ⟨_, rfl⟩
  rw [hC, hO]
  have HCO : Hid (∀ L : Nat, num (a ++ b) * 4294967296 = L → clv (if bel = true then -((rq L b.length : Nat) : Int) else ((rq L b.length : Nat) : Int)) = C ∧ ovv (if bel = true then -((rq L b.length : Nat) : Int) else ((rq L b.length : Nat) : Int)) = O) := by
    intro L hL
    rw [← hL]
    exact ⟨hC, hO⟩
  clear hC hO P0
  obtain ⟨t, ht⟩ : ∃ t, a ++ b = t := ⟨_, rfl⟩
  rw [ht] at zab hlen hdig hN1 hN2 HCO
  have HDG : Hid (∀ i, i < t.length → 48 ≤ gb t i ∧ gb t i ≤ 57) := hdig
  have zt := bs_size t
  obtain ⟨N, hN⟩ : ∃ N, num t = N := ⟨_, rfl⟩
  rw [hN] at hN1 hN2 HCO
  have HN1 : Hid (N < 10 ^ t.length) := hN1
  have HN2 : Hid (∀ k, k < t.length → dd N k = gb t (t.length - 1 - k) - 48) := hN2
  obtain ⟨M, hM⟩ : ∃ M, t.length = M := ⟨_, rfl⟩
  obtain ⟨kb, hkb⟩ : ∃ kb, b.length = kb := ⟨_, rfl⟩
  obtain ⟨ka, hka⟩ : ∃ ka, a.length = ka := ⟨_, rfl⟩
  rw [hM] at hlen zt HDG HN1 HN2
  rw [hkb] at hlen zb lb HCO
  rw [hka] at hlen za la ha1
  have hMk : kb < M := by omega
  have hM60 : M ≤ 60 := by omega
  clear hdig hN1 hN2 ht hN hb ha hM hkb hka hlen
  go_enter Tryd.func13, Tryd.ntmps13
  go_wp2_with fail
  refine (P.out _).mono ?_
  rintro e w1 ⟨rfl, W1⟩
  clear P
  go_wp2
  go_loopw [9, 11] (fun s9 s11 wr => ∃ j : Nat, j ≤ M ∧ s11 = .int .i64 ((M : Int) - 1 - (j : Int)) ∧ wr.ownsRow w.heap.size 43 1 s9 j ((ol j N).map (Value.int .u64)) ∧ Below w.heap.size w wr) (fun _ s11 _ => (intOf s11 + 1).toNat)
  case atStart => exact ⟨0, by omega, by simp, World.ownsRow_nil _ _ _ _, W1⟩
  case round =>
    clear W1
    obtain ⟨j, hj, rfl, hown, hW⟩ := hrel
    by_cases hlt : j < M
    · obtain ⟨x, hx⟩ : ∃ x : Nat, M - 1 - j = x := ⟨_, rfl⟩
      have hxi : (M : Int) - 1 - (j : Int) = (x : Int) := by omega
      have hd := HN2.out j hlt
      obtain ⟨g0, g1⟩ := HDG.out x (by omega)
      rw [hx] at hd
      have hix : ∀ h, ((bs t)[x]'h).toNat = gb t x := fun h => gb_at t x h
      have hxM : (x : Int) < (M : Int) := by omega
      have hx0 : (0 : Int) ≤ (x : Int) := by omega
      rw [hxi]
      have HX : Hid ((x : Int) - 1 = (M : Int) - 1 - ((j + 1 : Nat) : Int)) := by show _ = _; omega
      have HXm : Hid ((M : Int) - 1 - (j : Int) = (x : Int)) := hxi
      generalize gb t x = g at *
      obtain ⟨z, hz⟩ : ∃ z : Int, (g : Int) - 48 = z := ⟨_, rfl⟩
      have HZ2 : Hid (z = ((dd N j : Nat) : Int)) := by show _ = _; rw [hd, ← hz]; omega
      have z0 : 0 ≤ z := by omega
      have z1 : z ≤ 9 := by omega
      have v1 := wrap_byte z (by omega) (by omega)
      have v2 := wrap_small z (by omega) (by omega)
      clear hd hx hxi HCO
      go_wp2_with (at_builtin; refine wpList_append_own _ rfl _ _ 67 rfl w.heap.size 43 i0 (.int .u64 0) 1 8 Tryd.underlying67 hi hz0 hz1 hz2 rfl (by decide) _ _ _ rfl (hown.alloc _) ⟨wr.heap.size, 0, none⟩ 1 1 [.int .u64 z] rfl rfl (cell_one_new _ _ _) (ints_oneCell .u64 [z]) (by unfold maxLen; omega) (by omega) (by have := hW.size; simp; omega) ?_; intro v' w2 hown' hgrow hnil)
      have hown3 : w2.ownsRow w.heap.size 43 1 v' (j + 1) ((ol (j + 1) N).map (Value.int .u64)) := by rw [← snoc_dig _ _ z HZ2.out]; exact hown'
      have hW3 : Below w.heap.size w w2 := dbelow_grown hown hW hgrow
      clear hown' hgrow hnil hown hW
      go_wp2
      go_roundw
      case rel => exact ⟨j + 1, by omega, by rw [HX.out], hown3, hW3⟩
      case measure => first | (simp [intOf]; done) | (simp [intOf]; have := HXm.out; omega)
    · obtain rfl : j = M := by omega
      have hneg : (j : Int) - 1 - (j : Int) = -1 := by omega
      rw [hneg]
      have ST : Hid (∀ (v : Value) (W : World), Dw W v j N → Calls Tryd.prog 34 #[v, .int .u64 4294967296] W fun e w' => ∃ (v' : Value) (m' : Nat), e = .returned v' ∧ j ≤ m' ∧ m' ≤ 71 ∧ N * 4294967296 < 10 ^ m' ∧ w'.ownsRow W.heap.size 43 1 v' m' ((ol m' (N * 4294967296)).map (Value.int .u64)) ∧ Below W.heap.size W w') := fun v W hD => stimes_any v j N (by omega) hM60 HN1.out W hD
      have hDw := Dw.of_own hown (by omega)
      clear HDG HN1 HN2 hown hlt
      go_wp2_with fail
      refine (ST.out _ _ hDw).mono ?_
      rintro e w3 ⟨v3, m3, rfl, q0, q1, q2, hown3, hb⟩
      have W3 := bchain hW hb
      have D3 := Dw.of_own hown3 (by omega)
      clear hb hW ST hDw hown3
      obtain ⟨L, hL⟩ : ∃ L, N * 4294967296 = L := ⟨_, rfl⟩
      rw [hL] at q2 D3
      have HL := HCO.out L hL
      have HQ : Hid (L < 10 ^ m3) := q2
      clear HCO hL q2
      obtain ⟨g, cap, rfl, c1, c2, hc⟩ := D3
      unfold maxLen at c2
      have HC : Hid (∀ k, k < m3 → w3.cell? ⟨g, k, none⟩ = some (.int .u64 ((dd L k : Nat) : Int))) := hc
      clear hc
      go_wp2
      go_loopw [12, 13] (fun s12 s13 wr => ∃ i : Nat, i ≤ kb ∧ s12 = .int .i64 (rs L i) ∧ s13 = .int .i64 (i : Int) ∧ Below w3.heap.size w3 wr) (fun _ s13 _ => kb - (intOf s13).toNat)
      case atStart => exact ⟨0, by omega, by rw [rs_zero], rfl, Below.refl _ _⟩
      case round =>
        obtain ⟨i, hik, rfl, rfl, hW⟩ := hrel
        obtain ⟨r0, r1, r2⟩ := rs_pos L i
        have hdl := dd_lt L i
        by_cases hlt : i < kb
        · have hcell : wr.cell? ⟨g, i, none⟩ = some (.int .u64 ((dd L i : Nat) : Int)) := cell_later hW (HC.out i (by omega))
          have k1 : (i : Int) < (kb : Int) := by omega
          have k2 : (i : Int) < (m3 : Int) := by omega
          have k0 : (0 : Int) ≤ (i : Int) := by omega
          clear r2
          by_cases c1 : 5 < dd L i
          · have c1' : (5 : Int) < ((dd L i : Nat) : Int) := by omega
            have HS : Hid (rs L (i + 1) = 3) := by
              show _ = _
              rw [rs_step]
              rw [if_pos (by omega)]
            generalize dd L i = dg0 at *
            generalize rs L i = s0 at *
            clear HL HQ HC
            go_wp2
            go_roundw
            case rel => exact ⟨i + 1, by omega, by rw [HS.out], by rw [show ((i + 1 : Nat) : Int) = (i : Int) + 1 by omega], hW⟩
            case measure => simp [intOf]; omega
          · have c1' : ¬ (5 : Int) < ((dd L i : Nat) : Int) := by omega
            by_cases c2 : dd L i = 5
            · have c2' : ((dd L i : Nat) : Int) = 5 := by omega
              by_cases c3 : 0 < rs L i
              · have c3' : 0 < rs L i := c3
                have HS : Hid (rs L (i + 1) = 3) := by
                  show _ = _
                  rw [rs_step]
                  rw [if_pos (by omega)]
                generalize dd L i = dg0 at *
                generalize rs L i = s0 at *
                clear HL HQ HC
                go_wp2
                go_roundw
                case rel => exact ⟨i + 1, by omega, by rw [HS.out], by rw [show ((i + 1 : Nat) : Int) = (i : Int) + 1 by omega], hW⟩
                case measure => simp [intOf]; omega
              · have c3' : ¬ 0 < rs L i := c3
                have HS : Hid (rs L (i + 1) = 2) := by
                  show _ = _
                  rw [rs_step]
                  rw [if_neg (by omega), if_pos c2]
                generalize dd L i = dg0 at *
                generalize rs L i = s0 at *
                clear HL HQ HC
                go_wp2
                go_roundw
                case rel => exact ⟨i + 1, by omega, by rw [HS.out], by rw [show ((i + 1 : Nat) : Int) = (i : Int) + 1 by omega], hW⟩
                case measure => simp [intOf]; omega
            · have c2' : ¬ ((dd L i : Nat) : Int) = 5 := by omega
              by_cases c4 : 0 < dd L i
              · have c4' : (0 : Int) < ((dd L i : Nat) : Int) := by omega
                have HS : Hid (rs L (i + 1) = 1) := by
                  show _ = _
                  rw [rs_step]
                  rw [if_neg (by omega), if_neg c2, if_pos (by omega)]
                generalize dd L i = dg0 at *
                generalize rs L i = s0 at *
                clear HL HQ HC
                go_wp2
                go_roundw
                case rel => exact ⟨i + 1, by omega, by rw [HS.out], by rw [show ((i + 1 : Nat) : Int) = (i : Int) + 1 by omega], hW⟩
                case measure => simp [intOf]; omega
              · have c4' : ¬ (0 : Int) < ((dd L i : Nat) : Int) := by omega
                by_cases c3 : 0 < rs L i
                · have c3' : 0 < rs L i := c3
                  have HS : Hid (rs L (i + 1) = 1) := by
                    show _ = _
                    rw [rs_step]
                    rw [if_neg (by omega), if_neg c2, if_pos (by omega)]
                  generalize dd L i = dg0 at *
                  generalize rs L i = s0 at *
                  clear HL HQ HC
                  go_wp2
                  go_roundw
                  case rel => exact ⟨i + 1, by omega, by rw [HS.out], by rw [show ((i + 1 : Nat) : Int) = (i : Int) + 1 by omega], hW⟩
                  case measure => simp [intOf]; omega
                · have c3' : ¬ 0 < rs L i := c3
                  have HS : Hid (rs L (i + 1) = rs L i) := by
                    show _ = _
                    rw [rs_step]
                    rw [if_neg (by omega), if_neg c2, if_neg (by omega)]
                  generalize dd L i = dg0 at *
                  generalize rs L i = s0 at *
                  clear HL HQ HC
                  go_wp2
                  go_roundw
                  case rel => exact ⟨i + 1, by omega, by rw [HS.out], by rw [show ((i + 1 : Nat) : Int) = (i : Int) + 1 by omega], hW⟩
                  case measure => simp [intOf]; omega
        · obtain rfl : i = kb := by omega
          have hnk : ¬ (i : Int) < (i : Int) := by omega
          clear hdl hlt
          have HRQ : Hid (rq L i = if rs L i = 3 ∨ (rs L i = 2 ∧ L / 10 ^ i % 2 = 1) then L / 10 ^ i + 1 else L / 10 ^ i) := rfl
          obtain ⟨R, hR⟩ : ∃ R, rs L i = R := ⟨_, rfl⟩
          rw [hR] at HRQ r0 r1
          rw [hR]
          clear hR r2
          have HT0 : Hid (L / 10 ^ m3 = 0) := Nat.div_eq_of_lt HQ.out
          clear HQ
          go_wp2
          go_loopw [15, 16, 17] (fun s15 s16 s17 wx => ∃ (t : Nat) (n : Int) (o : Bool), i ≤ t ∧ t ≤ m3 ∧ s15 = .int .u64 n ∧ s16 = .bool o ∧ s17 = .int .i64 ((t : Int) - 1) ∧ (o = false → n = ((L / 10 ^ t : Nat) : Int) ∧ n ≤ 9223372036854775809) ∧ (o = true → 9223372036854775808 < ((L / 10 ^ t : Nat) : Int)) ∧ Below w3.heap.size w3 wx) (fun _ _ s17 _ => (intOf s17 + 1).toNat)
          case atStart => exact ⟨m3, 0, false, by omega, by omega, rfl, rfl, rfl, fun _ => ⟨by rw [HT0.out]; rfl, by omega⟩, fun h => (by cases h), hW⟩
          case round =>
            clear HT0 hW
            obtain ⟨t, n, o, t0, t1, rfl, rfl, rfl, hF, hT, hX⟩ := hrel
            by_cases hgo : i < t
            · obtain ⟨u, rfl⟩ : ∃ u, t = u + 1 := ⟨t - 1, by omega⟩
              have hu : ((u + 1 : Nat) : Int) - 1 = (u : Int) := by omega
              rw [hu]
              have HS := top_step L u
              have hdl := dd_lt L u
              have hcell : wr.cell? ⟨g, u, none⟩ = some (.int .u64 ((dd L u : Nat) : Int)) := cell_later hX (HC.out u (by omega))
              have k0 : (0 : Int) ≤ (u : Int) := by omega
              have k1 : (u : Int) < (m3 : Int) := by omega
              have k2 : (i : Int) ≤ (u : Int) := by omega
              have HME : Hid (((u + 1 : Nat) : Int) - 1 = (u : Int)) := hu
              clear hu HL HRQ HC
              generalize dd L u = dg0 at *
              cases o
              · obtain ⟨hn, hn9⟩ := hF rfl
                by_cases hbig : 922337203685477580 < n
                · have HT2 : Hid (9223372036854775808 < ((L / 10 ^ u : Nat) : Int)) := by
                    show _ < _
                    generalize L / 10 ^ u = Q1 at *
                    generalize L / 10 ^ (u + 1) = Q2 at *
                    omega
                  clear HS hF hT hn
                  go_wp2
                  go_roundw
                  case rel => exact ⟨u, _, true, by omega, by omega, rfl, rfl, rfl, fun h => (by cases h), fun _ => HT2.out, hX⟩
                  case measure => first | (simp [intOf]; done) | (simp [intOf]; omega)
                · have n0 : 0 ≤ n := by rw [hn]; exact Int.natCast_nonneg _
                  have HF2 : Hid (10 * n + (dg0 : Int) = ((L / 10 ^ u : Nat) : Int)) := by
                    show _ = _
                    generalize L / 10 ^ u = Q1 at *
                    generalize L / 10 ^ (u + 1) = Q2 at *
                    omega
                  have v1 := wrap_small (10 * n) (by omega) (by omega)
                  have v2 := wrap_small (10 * n + (dg0 : Int)) (by omega) (by omega)
                  clear HS hF hT hn
                  go_wp2
                  go_roundw
                  case rel => exact ⟨u, 10 * n + (dg0 : Int), false, by omega, by omega, rfl, rfl, rfl, fun _ => ⟨HF2.out, by omega⟩, fun h => (by cases h), hX⟩
                  case measure => first | (simp [intOf]; done) | (simp [intOf]; omega)
              · have h9 := hT rfl
                have HT2 : Hid (9223372036854775808 < ((L / 10 ^ u : Nat) : Int)) := by
                    show _ < _
                    generalize L / 10 ^ u = Q1 at *
                    generalize L / 10 ^ (u + 1) = Q2 at *
                    omega
                clear HS hF hT h9
                go_wp2
                go_roundw
                case rel => exact ⟨u, _, true, by omega, by omega, rfl, rfl, rfl, fun h => (by cases h), fun _ => HT2.out, hX⟩
                case measure => first | (simp [intOf]; done) | (simp [intOf]; omega)
            · obtain rfl : t = i := by omega
              have VW := bchain W3 hX
              have kge : ¬ (t : Int) ≤ (t : Int) - 1 := by omega
              have hge : ((L / 10 ^ t : Nat) : Int) ≤ ((rq L t : Nat) : Int) := by rw [HRQ.out]; split <;> omega
              clear hX HC hgo
              generalize L / 10 ^ t = QQ at *
              cases o
              · obtain ⟨hn, hn9⟩ := hF rfl
                clear hF hT
                by_cases hov : 9223372036854775808 < n
                · have SO : Hid (∀ W : World, Calls Tryd.prog 36 #[.int .u64 (9223372036854775809), .int .i64 0] W fun e w' => e = .returned (.agg #[.int .u64 (dg (9223372036854775809) 0), .int .u64 (dg (9223372036854775809) 1), .int .u64 (dg (9223372036854775809) 2), .int .u64 (dg (9223372036854775809) 3), .int .u64 (dg (9223372036854775809) 4), .int .u64 (dg (9223372036854775809) 5)]) ∧ Below W.heap.size W w') := fun W => sone_n (9223372036854775809) (by omega) (by omega) W
                  have SC : Hid (∀ W : World, Calls Tryd.prog 35 #[.agg #[.int .u64 (dg (9223372036854775809) 0), .int .u64 (dg (9223372036854775809) 1), .int .u64 (dg (9223372036854775809) 2), .int .u64 (dg (9223372036854775809) 3), .int .u64 (dg (9223372036854775809) 4), .int .u64 (dg (9223372036854775809) 5)], .bool bel] W fun e w' => e = .returned (.tuple #[.int .i64 C, .bool O]) ∧ Below W.heap.size W w') := fun W => sclamp_p (9223372036854775809) bel C O (by have h := far_same2 ((rq L t : Nat) : Int) 9223372036854775809 (by omega) (by omega) bel; exact ⟨h.1.trans HL.1, h.2.trans HL.2⟩) (by omega) (by omega) W
                  clear hge HRQ hn hn9
                  clear HL
                  go_wp2_with fail
                  refine (SO.out _).mono ?_
                  rintro e w8 ⟨rfl, hb⟩
                  have W8 := bchain VW hb
                  clear hb VW SO
                  go_wp2_with fail
                  refine (SC.out _).mono ?_
                  rintro e w9 ⟨rfl, hb⟩
                  have W9 := bchain W8 hb
                  clear hb W8 SC
                  go_wp2
                  exact bodyPost_ret (v := .tuple #[.int .i64 C, .bool O, .int .i64 0]) (by simp [results, Tryd.results13, go_sem]) rfl ⟨rfl, W9⟩
                · have n0 : 0 ≤ n := by omega
                  have m0 := Int.tmod_eq_emod_of_nonneg (b := 2) n0
                  have v0 := wrap_small (n % 2) (by omega) (by omega)
                  have v1 := wrap_small (n + 1) (by omega) (by omega)
                  by_cases r3 : R = 3
                  · have hZ : ((rq L t : Nat) : Int) = n + 1 := by rw [HRQ.out, if_pos (Or.inl r3)]; omega
                    subst r3
                    have SO : Hid (∀ W : World, Calls Tryd.prog 36 #[.int .u64 (n + 1), .int .i64 0] W fun e w' => e = .returned (.agg #[.int .u64 (dg (n + 1) 0), .int .u64 (dg (n + 1) 1), .int .u64 (dg (n + 1) 2), .int .u64 (dg (n + 1) 3), .int .u64 (dg (n + 1) 4), .int .u64 (dg (n + 1) 5)]) ∧ Below W.heap.size W w') := fun W => sone_n (n + 1) (by omega) (by omega) W
                    have SC : Hid (∀ W : World, Calls Tryd.prog 35 #[.agg #[.int .u64 (dg (n + 1) 0), .int .u64 (dg (n + 1) 1), .int .u64 (dg (n + 1) 2), .int .u64 (dg (n + 1) 3), .int .u64 (dg (n + 1) 4), .int .u64 (dg (n + 1) 5)], .bool bel] W fun e w' => e = .returned (.tuple #[.int .i64 C, .bool O]) ∧ Below W.heap.size W w') := fun W => sclamp_p (n + 1) bel C O (by rw [← hZ]; exact HL) (by omega) (by omega) W
                    clear hge HRQ hn hn9 hZ
                    clear HL
                    go_wp2_with fail
                    refine (SO.out _).mono ?_
                    rintro e w8 ⟨rfl, hb⟩
                    have W8 := bchain VW hb
                    clear hb VW SO
                    go_wp2_with fail
                    refine (SC.out _).mono ?_
                    rintro e w9 ⟨rfl, hb⟩
                    have W9 := bchain W8 hb
                    clear hb W8 SC
                    go_wp2
                    exact bodyPost_ret (v := .tuple #[.int .i64 C, .bool O, .int .i64 0]) (by simp [results, Tryd.results13, go_sem]) rfl ⟨rfl, W9⟩
                  · by_cases r2 : R = 2
                    · by_cases hod : n % 2 = 1
                      · have hZ : ((rq L t : Nat) : Int) = n + 1 := by rw [HRQ.out, if_pos (Or.inr ⟨r2, by omega⟩)]; omega
                        subst r2
                        have SO : Hid (∀ W : World, Calls Tryd.prog 36 #[.int .u64 (n + 1), .int .i64 0] W fun e w' => e = .returned (.agg #[.int .u64 (dg (n + 1) 0), .int .u64 (dg (n + 1) 1), .int .u64 (dg (n + 1) 2), .int .u64 (dg (n + 1) 3), .int .u64 (dg (n + 1) 4), .int .u64 (dg (n + 1) 5)]) ∧ Below W.heap.size W w') := fun W => sone_n (n + 1) (by omega) (by omega) W
                        have SC : Hid (∀ W : World, Calls Tryd.prog 35 #[.agg #[.int .u64 (dg (n + 1) 0), .int .u64 (dg (n + 1) 1), .int .u64 (dg (n + 1) 2), .int .u64 (dg (n + 1) 3), .int .u64 (dg (n + 1) 4), .int .u64 (dg (n + 1) 5)], .bool bel] W fun e w' => e = .returned (.tuple #[.int .i64 C, .bool O]) ∧ Below W.heap.size W w') := fun W => sclamp_p (n + 1) bel C O (by rw [← hZ]; exact HL) (by omega) (by omega) W
                        clear hge HRQ hn hn9 hZ
                        clear HL
                        go_wp2_with fail
                        refine (SO.out _).mono ?_
                        rintro e w8 ⟨rfl, hb⟩
                        have W8 := bchain VW hb
                        clear hb VW SO
                        go_wp2_with fail
                        refine (SC.out _).mono ?_
                        rintro e w9 ⟨rfl, hb⟩
                        have W9 := bchain W8 hb
                        clear hb W8 SC
                        go_wp2
                        exact bodyPost_ret (v := .tuple #[.int .i64 C, .bool O, .int .i64 0]) (by simp [results, Tryd.results13, go_sem]) rfl ⟨rfl, W9⟩
                      · have hZ : ((rq L t : Nat) : Int) = n := by rw [HRQ.out, if_neg (by omega)]; omega
                        subst r2
                        have SO : Hid (∀ W : World, Calls Tryd.prog 36 #[.int .u64 (n), .int .i64 0] W fun e w' => e = .returned (.agg #[.int .u64 (dg (n) 0), .int .u64 (dg (n) 1), .int .u64 (dg (n) 2), .int .u64 (dg (n) 3), .int .u64 (dg (n) 4), .int .u64 (dg (n) 5)]) ∧ Below W.heap.size W w') := fun W => sone_n (n) (by omega) (by omega) W
                        have SC : Hid (∀ W : World, Calls Tryd.prog 35 #[.agg #[.int .u64 (dg (n) 0), .int .u64 (dg (n) 1), .int .u64 (dg (n) 2), .int .u64 (dg (n) 3), .int .u64 (dg (n) 4), .int .u64 (dg (n) 5)], .bool bel] W fun e w' => e = .returned (.tuple #[.int .i64 C, .bool O]) ∧ Below W.heap.size W w') := fun W => sclamp_p (n) bel C O (by rw [← hZ]; exact HL) (by omega) (by omega) W
                        clear hge HRQ hn hn9 hZ
                        clear HL
                        go_wp2_with fail
                        refine (SO.out _).mono ?_
                        rintro e w8 ⟨rfl, hb⟩
                        have W8 := bchain VW hb
                        clear hb VW SO
                        go_wp2_with fail
                        refine (SC.out _).mono ?_
                        rintro e w9 ⟨rfl, hb⟩
                        have W9 := bchain W8 hb
                        clear hb W8 SC
                        go_wp2
                        exact bodyPost_ret (v := .tuple #[.int .i64 C, .bool O, .int .i64 0]) (by simp [results, Tryd.results13, go_sem]) rfl ⟨rfl, W9⟩
                    · have hZ : ((rq L t : Nat) : Int) = n := by rw [HRQ.out, if_neg (by omega)]; omega
                      have SO : Hid (∀ W : World, Calls Tryd.prog 36 #[.int .u64 (n), .int .i64 0] W fun e w' => e = .returned (.agg #[.int .u64 (dg (n) 0), .int .u64 (dg (n) 1), .int .u64 (dg (n) 2), .int .u64 (dg (n) 3), .int .u64 (dg (n) 4), .int .u64 (dg (n) 5)]) ∧ Below W.heap.size W w') := fun W => sone_n (n) (by omega) (by omega) W
                      have SC : Hid (∀ W : World, Calls Tryd.prog 35 #[.agg #[.int .u64 (dg (n) 0), .int .u64 (dg (n) 1), .int .u64 (dg (n) 2), .int .u64 (dg (n) 3), .int .u64 (dg (n) 4), .int .u64 (dg (n) 5)], .bool bel] W fun e w' => e = .returned (.tuple #[.int .i64 C, .bool O]) ∧ Below W.heap.size W w') := fun W => sclamp_p (n) bel C O (by rw [← hZ]; exact HL) (by omega) (by omega) W
                      clear hge HRQ hn hn9 hZ
                      clear HL
                      go_wp2_with fail
                      refine (SO.out _).mono ?_
                      rintro e w8 ⟨rfl, hb⟩
                      have W8 := bchain VW hb
                      clear hb VW SO
                      go_wp2_with fail
                      refine (SC.out _).mono ?_
                      rintro e w9 ⟨rfl, hb⟩
                      have W9 := bchain W8 hb
                      clear hb W8 SC
                      go_wp2
                      exact bodyPost_ret (v := .tuple #[.int .i64 C, .bool O, .int .i64 0]) (by simp [results, Tryd.results13, go_sem]) rfl ⟨rfl, W9⟩
              · have h9 := hT rfl
                clear hF hT
                have SO : Hid (∀ W : World, Calls Tryd.prog 36 #[.int .u64 (9223372036854775809), .int .i64 0] W fun e w' => e = .returned (.agg #[.int .u64 (dg (9223372036854775809) 0), .int .u64 (dg (9223372036854775809) 1), .int .u64 (dg (9223372036854775809) 2), .int .u64 (dg (9223372036854775809) 3), .int .u64 (dg (9223372036854775809) 4), .int .u64 (dg (9223372036854775809) 5)]) ∧ Below W.heap.size W w') := fun W => sone_n (9223372036854775809) (by omega) (by omega) W
                have SC : Hid (∀ W : World, Calls Tryd.prog 35 #[.agg #[.int .u64 (dg (9223372036854775809) 0), .int .u64 (dg (9223372036854775809) 1), .int .u64 (dg (9223372036854775809) 2), .int .u64 (dg (9223372036854775809) 3), .int .u64 (dg (9223372036854775809) 4), .int .u64 (dg (9223372036854775809) 5)], .bool bel] W fun e w' => e = .returned (.tuple #[.int .i64 C, .bool O]) ∧ Below W.heap.size W w') := fun W => sclamp_p (9223372036854775809) bel C O (by have h := far_same2 ((rq L t : Nat) : Int) 9223372036854775809 (by omega) (by omega) bel; exact ⟨h.1.trans HL.1, h.2.trans HL.2⟩) (by omega) (by omega) W
                clear hge HRQ h9
                clear HL
                go_wp2_with fail
                refine (SO.out _).mono ?_
                rintro e w8 ⟨rfl, hb⟩
                have W8 := bchain VW hb
                clear hb VW SO
                go_wp2_with fail
                refine (SC.out _).mono ?_
                rintro e w9 ⟨rfl, hb⟩
                have W9 := bchain W8 hb
                clear hb W8 SC
                go_wp2
                exact bodyPost_ret (v := .tuple #[.int .i64 C, .bool O, .int .i64 0]) (by simp [results, Tryd.results13, go_sem]) rfl ⟨rfl, W9⟩
end Go.Proofs.YtekdpeiemfppiaaDoor
