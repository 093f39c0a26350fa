/-
  The contracts of slices.Grow and slices.Concat over lists of numbers, of vec's fits, and of each where it makes lists.
-/
import Derived.Test.YtldnnjcfihjkdaaDoorPWalkE
import Derived.Test.YtldnnjcfihjkdaaDoorPWalkG
import Derived.Lib.AppendZerosOnto
import Derived.Lib.AppendZeros
set_option linter.unusedVariables false
set_option linter.unusedSimpArgs false
namespace Go.Proofs.YtldnnjcfihjkdaaDoor
open Go.RowKit

theorem Ar.far {w : World} {g n cap : Nat} {f : Nat → Int} {p : Addr} (h : Ar w (.slice (some ⟨g, 0, none⟩) n cap) n f) (u : Value) (hp : p.block ≠ g) : Ar (w.setCell p u) (.slice (some ⟨g, 0, none⟩) n cap) n f := by
  obtain ⟨ad, ca, b, o, e, h1, h2, h3, h4⟩ := h
  cases e
  refine ⟨_, _, b, o, rfl, h1, h2, h3, fun k hk => ⟨cell_set ?_ (h4 k hk).1, (h4 k hk).2⟩⟩
  have e := h3 (by omega)
  cases e
  exact hp
theorem B3.block {b : Nat} {x y z : Value} {w w' : World} (h : B3 b x y z w) (hb : w'.heap[b]? = w.heap[b]?) : B3 b x y z w' :=
  ⟨(World.cell?_of_block (w := w) hb).trans h.c0, (World.cell?_of_block (w := w) hb).trans h.c1, (World.cell?_of_block (w := w) hb).trans h.c2, (World.frozen?_of_block (w := w) hb).trans h.f0, (World.frozen?_of_block (w := w) hb).trans h.f1, (World.frozen?_of_block (w := w) hb).trans h.f2⟩
theorem fits_iff (r c : Int) (r0 : 1 ≤ r) (c0 : 1 ≤ c) : r ≤ 65536 / c ↔ r * c ≤ 65536 := Int.le_ediv_iff_mul_le (by omega)
set_option maxHeartbeats 1000000 in
theorem fits_any (r c : Int) (r0 : 1 ≤ r) (r1 : r ≤ 9223372036854775807) (c0 : 1 ≤ c) (c1 : c ≤ 9223372036854775807) (w : World) :
    Calls Tryd.prog 70 #[.int .i64 r, .int .i64 c] w fun e w' => e = .returned (.bool (decide (r * c ≤ 65536))) ∧ w' = w := by
  have hi := fits_iff r c r0 c0
  have hb : (65536 : Int) / c ≤ 65536 := Int.ediv_le_self _ (by omega)
  have hb0 : (0 : Int) ≤ 65536 / c := Int.ediv_nonneg (by omega) (by omega)
  have hc : ¬ c = 0 := by omega
  by_cases h : r ≤ 65536 / c
  · rw [decide_eq_true (hi.1 h)]
    clear hi
    go_enter Tryd.func70, Tryd.ntmps70
    go_wp2
    go_ret
    exact ⟨by simp [h], rfl⟩
  · rw [decide_eq_false (fun h' => h (hi.2 h'))]
    clear hi
    go_enter Tryd.func70, Tryd.ntmps70
    go_wp2
    go_ret
    exact ⟨by simp [h], rfl⟩
set_option maxRecDepth 100000 in
set_option maxHeartbeats 1000000 in
theorem grow_any (n : Nat) (hn : 1 ≤ n) (hn2 : n ≤ 1000000) (w : World) :
    Calls Tryd.prog 122 #[.slice none 0 0, .int .i64 (n : Int)] w fun e w' => ∃ cap, e = .returned (.slice (some ⟨w.heap.size, 0, none⟩) 0 cap) ∧ w'.ownsRow w.heap.size 33 1 (.slice (some ⟨w.heap.size, 0, none⟩) 0 cap) 0 [] ∧ Below w.heap.size w w' := by
  obtain ⟨i0, hi, hz0, hz1, hz2⟩ := info_parts dinfo_fx
  have hold : (Builtin.firstCells i0.size 0 (.slice none 0 0)).run Tryd.prog w.drew = .ok ([] : List Value).toArray w.drew := run_firstCells_none w.drew i0.size 0 0 0
  have hrz : ∀ ty, (Builtin.append_ #[22, 3] ty #[.slice none 0 0, .int .i64 (n : Int)]).run Tryd.prog w =
      .ok (.slice (some ⟨w.heap.size, 0, none⟩) n (grownCap w n 0 33)) (w.drew.alloc (.cells (([] : List Value).toArray ++ Builtin.zeroCells (Value.int .i64 0).cells n ++ Builtin.zeroCells (Value.int .i64 0).cells (grownCap w n 0 33 - n)) 33)) := fun ty => by
    have h := Lib.run_append_grow_zeros w 22 3 ty 33 i0 (.int .i64 0) .i64 .i64 Tryd.underlying22 Tryd.underlying3 hi hz0 none 0 0 [] hold n (by omega) (by rw [hz1]; omega) (by omega) (by omega) (by rw [hz2]; omega) (by rw [Nat.zero_add]; exact growslice_fits (by omega) (by rw [hz2]; omega))
    rw [Nat.zero_add] at h
    exact h
  have hGn : n ≤ grownCap w n 0 33 := grownCap_ge w _ _ _
  have hG63 := grownCap_le_maxLen w n 0 33 (by unfold maxLen; omega)
  obtain ⟨G, hG⟩ : ∃ G, G = grownCap w n 0 33 := ⟨_, rfl⟩
  rw [← hG] at hrz hGn hG63
  have HO : Hid ((w.alloc (.cells (Builtin.zeroCells #[Value.int .i64 0] n ++ Builtin.zeroCells #[Value.int .i64 0] (G - n)) 33)).drew.ownsRow w.heap.size 33 1 (.slice (some ⟨w.heap.size, 0, none⟩) 0 G) 0 []) := (World.ownsRow_made w _ G (Nat.le_refl _) hG63 (by simp [Builtin.zeroCells]; omega)).drew
  have HW : Hid (Below w.heap.size w (w.alloc (.cells (Builtin.zeroCells #[Value.int .i64 0] n ++ Builtin.zeroCells #[Value.int .i64 0] (G - n)) 33)).drew) := ((Below.refl _ w).alloc (Nat.le_refl _) _).drew
  unfold maxLen at hG63
  clear hold hG
  go_enter Tryd.func122, Tryd.ntmps122
  go_wp2_with (at_builtin; refine Lib.wpList_append_run _ rfl _ _ _ _ rfl _ _ rfl rfl _ _ (hrz _) ?_)
  all_goals
    go_ret
    exact ⟨_, rfl, HO.out, HW.out⟩
theorem rows_il (F : Nat → Nat → Int) (m j : Nat) : il (fun i => F (i / m) (i % m)) (j * m) ++ il (F j) m = il (fun i => F (i / m) (i % m)) (j * m + m) := by
  unfold il
  rw [List.range_add, List.map_append, List.map_map]
  congr 1
  apply List.map_congr_left
  intro k hk
  have hk := List.mem_range.1 hk
  show _ = Value.int .i64 (F ((j * m + k) / m) ((j * m + k) % m))
  rw [show (j * m + k) / m = j by rw [Nat.mul_comm, Nat.mul_add_div (by omega), Nat.div_eq_of_lt hk, Nat.add_zero], show (j * m + k) % m = k by rw [Nat.mul_comm, Nat.mul_add_mod, Nat.mod_eq_of_lt hk]]
theorem il_one1 (f : Nat → Int) (n : Nat) : ∀ u ∈ il f n, u.oneCell' = true := by
  intro u hu
  unfold il at hu
  obtain ⟨k, _, rfl⟩ := List.mem_map.1 hu
  rfl

set_option maxRecDepth 100000 in
set_option maxHeartbeats 4000000 in
theorem concat_any (b n m : Nat) (h : Nat → Nat) (F : Nat → Nat → Int) (hn : 1 ≤ n) (hm : 1 ≤ m) (hnm : n * m ≤ 65536) (w : World) (hR : Rw b n (fun k => .slice (some ⟨h k, 0, none⟩) m m) w) (hA : ∀ k, k < n → Ar w (.slice (some ⟨h k, 0, none⟩) m m) m (F k)) :
    Calls Tryd.prog 77 #[.slice (some ⟨b, 0, none⟩) n n] w fun e w' => ∃ g cap, e = .returned (.slice (some ⟨g, 0, none⟩) (n * m) cap) ∧ Ar w' (.slice (some ⟨g, 0, none⟩) (n * m) cap) (n * m) (fun i => F (i / m) (i % m)) ∧ w.heap.size ≤ g ∧ Below w.heap.size w w' := by
  obtain ⟨i0, hi, hz0, hz1, hz2⟩ := info_parts dinfo_fx
  have hn1 : n ≤ 65536 := Nat.le_trans (Nat.le_mul_of_pos_right n hm) hnm
  have hm1 : m ≤ 65536 := Nat.le_trans (Nat.le_mul_of_pos_left m hn) hnm
  have HR : Hid (Rw b n (fun k => .slice (some ⟨h k, 0, none⟩) m m) w) := hR
  have HA : Hid (∀ k, k < n → Ar w (.slice (some ⟨h k, 0, none⟩) m m) m (F k)) := hA
  have HM : Hid (∀ k, k ≤ n → k * m ≤ n * m) := fun k hk => Nat.mul_le_mul_right m hk
  have HN : Hid (n * m ≤ 65536) := hnm
  clear hR hA hnm
  obtain ⟨P, hP⟩ : ∃ P, n * m = P := ⟨_, rfl⟩
  have HP : Hid (n * m = P) := hP
  have hP1 : P ≤ 65536 := by rw [← hP]; exact HN.out
  have hP0 : 1 ≤ P := by rw [← hP]; exact Nat.mul_pos hn hm
  rw [hP]
  clear hP HN
  go_enter Tryd.func77, Tryd.ntmps77
  go_wp2
  go_loopw [3, 11] (fun s3 s11 wr => ∃ (k p : Nat), k ≤ n ∧ s3 = .int .i64 (p : Int) ∧ p ≤ P ∧ Hid (p = k * m) ∧ s11 = .int .i64 (k : Int) ∧ wr = w) (fun _ s11 _ => n - (intOf s11).toNat)
  case atStart => exact ⟨0, 0, by omega, rfl, by omega, by show _ = _; simp, rfl, rfl⟩
  case round =>
    obtain ⟨k, p, hk, rfl, hp, hpk, rfl, rfl⟩ := hrel
    by_cases hlt : k < n
    · have hkI : (k : Int) < (n : Int) := by omega
      have hc := HR.out.c k hlt
      have hp2 : p + m ≤ P := by rw [hpk.out, ← HP.out, ← Nat.succ_mul]; exact HM.out (k + 1) (by omega)
      have hpk2 : Hid (p + m = (k + 1) * m) := by show _ = _; rw [hpk.out, Nat.succ_mul]
      have hneg : ¬ ((p : Int) + (m : Int)) < 0 := by omega
      clear hpk
      go_wp2
      go_roundw
      case rel => exact ⟨k + 1, p + m, by omega, by go_num, hp2, hpk2, by go_num, trivial⟩
      case measure => simp [intOf]; omega
    · obtain rfl : k = n := by omega
      have hkI : ¬ (k : Int) < (k : Int) := by omega
      obtain rfl : p = P := by rw [hpk.out]; exact HP.out
      rename World => wo
      have CG : Hid (Calls Tryd.prog 122 #[.slice none 0 0, .int .i64 (p : Int)] wo fun e w' => ∃ cap, e = .returned (.slice (some ⟨wo.heap.size, 0, none⟩) 0 cap) ∧ w'.ownsRow wo.heap.size 33 1 (.slice (some ⟨wo.heap.size, 0, none⟩) 0 cap) 0 [] ∧ Below wo.heap.size wo w') := grow_any p hP0 (by omega) wo
      go_wp2_with fail
      refine CG.out.mono ?_
      rintro e w1 ⟨cap, rfl, hown, hb⟩
      have HO1 : Hid (w1.ownsRow wo.heap.size 33 1 (.slice (some ⟨wo.heap.size, 0, none⟩) 0 cap) 0 (il (fun i => F (i / m) (i % m)) 0)) := hown
      have HB1 : Hid (Below wo.heap.size wo w1) := hb
      clear hown hb CG hpk
      go_wp2
      go_loopw [6, 27] (fun s6 s27 wr => ∃ (q g cp t : Nat), q ≤ k ∧ s6 = .slice (some ⟨g, 0, none⟩) t cp ∧ t ≤ p ∧ Hid (t = q * m) ∧ s27 = .int .i64 (q : Int) ∧ Hid (wr.ownsRow wo.heap.size 33 1 (.slice (some ⟨g, 0, none⟩) t cp) t (il (fun i => F (i / m) (i % m)) t)) ∧ Hid (Below wo.heap.size wo wr)) (fun _ s27 _ => k - (intOf s27).toNat)
      case atStart => exact ⟨0, wo.heap.size, cap, 0, by omega, rfl, by omega, by show _ = _; simp, rfl, HO1, HB1⟩
      case round =>
        clear HO1 HB1
        obtain ⟨q, g, cp, t, hq, rfl, ht, htq, rfl, hown, hB⟩ := hrel
        by_cases hlt : q < k
        · have hqI : (q : Int) < (k : Int) := by omega
          have hc := (hB.out.cell (World.block_lt_of_cell? _ _ (HR.out.c q hlt))).trans (HR.out.c q hlt)
          have hA2 := (HA.out q hlt).later hB.out
          have HN : Hid (∀ (j : Nat) (u : Value), (il (F q) m)[j]? = some u → wr.cell? ((⟨h q, 0, none⟩ : Addr).add j) = some u) := fun j u hj => by
            have hjm : j < m := by
              have := (List.getElem?_eq_some_iff.1 hj).1
              rw [il_len] at this
              exact this
            obtain ⟨b', o', e, c', -, -⟩ := hA2.at j hjm
            cases e
            rw [il_get (F q) m j hjm] at hj
            rw [Addr.add_lit, ← hj]
            exact c'
          have ht2 : t + m ≤ p := by rw [htq.out, ← HP.out, ← Nat.succ_mul]; exact HM.out (q + 1) (by omega)
          have htq2 : Hid (t + m = (q + 1) * m) := by show _ = _; rw [htq.out, Nat.succ_mul]
          have hil : Hid (il (fun i => F (i / m) (i % m)) t ++ il (F q) m = il (fun i => F (i / m) (i % m)) (t + m)) := by show _ = _; rw [htq.out]; exact rows_il F m q
          have hownU := hown.out
          have hBU := hB.out.size
          clear hA2 htq
          go_wp2_with (at_builtin; refine wpList_append_own _ rfl _ _ 22 rfl wo.heap.size 33 i0 (.int .i64 0) 1 8 Tryd.underlying22 hi hz0 hz1 hz2 rfl (by decide) _ _ _ rfl hownU ⟨h q, 0, none⟩ m m (il (F q) m) rfl (by rw [il_len, Nat.mul_one]) HN.out (il_one1 (F q) m) (by unfold maxLen; omega) (by omega) hBU ?_; intro v' w2 hown' hgrow hnil)
          have hW2 : Hid (Below wo.heap.size wo w2) := hB.out.grown hgrow hBU (fun k' hk' => by
            rcases hownU.2 with ⟨h0, h1⟩ | ⟨g', cap', cur, hv, hbs, -⟩
            · first | cases h0 | cases h1
            · cases hv
              cases hk'
              exact hbs)
          have hown2 : Hid (w2.ownsRow wo.heap.size 33 1 v' (t + m) (il (fun i => F (i / m) (i % m)) (t + m))) := by show World.ownsRow _ _ _ _ _ _ _; rw [← hil.out]; exact hown'
          obtain ⟨g', cap', rfl⟩ : ∃ g' cap', v' = .slice (some ⟨g', 0, none⟩) (t + m) cap' := by
            rcases hown'.2 with ⟨h0, h1⟩ | ⟨g', cap', cur, hv, -⟩
            · omega
            · exact ⟨g', cap', hv⟩
          clear hown' hgrow hnil hownU hBU HN hown hB hil
          go_wp2
          go_roundw
          case rel => exact ⟨q + 1, g', cap', t + m, by omega, rfl, ht2, htq2, by go_num, hown2, hW2⟩
          case measure => simp [intOf]; omega
        · obtain rfl : q = k := by omega
          have hqI : ¬ (q : Int) < (q : Int) := by omega
          obtain rfl : t = p := by rw [htq.out]; exact HP.out
          have HX : Hid (Ar wr (.slice (some ⟨g, 0, none⟩) t cp) t (fun i => F (i / m) (i % m)) ∧ Ow wo.heap.size (.slice (some ⟨g, 0, none⟩) t cp)) := ar_of_own hown.out (fun i hi => by
            have h1 : i / m < q := by rw [Nat.div_lt_iff_lt_mul hm, HP.out]; exact hi
            have h2 : i % m < m := Nat.mod_lt _ hm
            obtain ⟨_, _, _, _, _, _, _, _, h3⟩ := HA.out (i / m) h1
            exact (h3 _ h2).2)
          clear hown
          go_wp2
          go_ret
          exact ⟨g, cp, rfl, HX.out.1, HX.out.2 _ _ _ rfl (by omega), hB.out⟩

end Go.Proofs.YtldnnjcfihjkdaaDoor
