/-
  The contracts of digits' plain and apart, and of strings.Cut at a point.
-/
import Derived.Test.YtekdpeiemfppiabDoorGMath2
import Derived.Test.YtekdpeiemfppiabDoorShelf
import Derived.Test.YtekdpeiemfppiabDoorTools
import Derived.Lib.OthersKept
import Derived.WalkMore
import Derived.Deep.WholeRow
set_option linter.unusedVariables false
set_option linter.unusedSimpArgs false
namespace Go.Proofs.YtekdpeiemfppiabDoor
open Go.RowKit

set_option maxHeartbeats 1000000 in
theorem gplain_any (l : List UInt8) (hl : l.length ≤ 9223372036854775807) (w : World) :
    Calls Tryd.prog 24 #[.string (bs l)] w fun e w' => e = .returned (.bool (plB l)) ∧ w' = w := by
  have z := bs_size l
  have e0 : (ByteArray.mk #[]).toList = [] := ByteArray.toList_mk []
  have e1 : (ByteArray.mk #[48]).toList = [48] := ByteArray.toList_mk [48]
  have e2 := bs_toList l
  by_cases h1 : l = [48]
  · have f1 : (l == [48]) = true := by rw [beq_iff_eq]; exact h1
    have HR : Hid (plB l = true) := by show _ = _; unfold plB; rw [decide_eq_true h1]; rfl
    clear h1
    go_enter Tryd.func24, Tryd.ntmps24
    go_wp2
    go_ret
    exact ⟨by rw [HR.out]; rfl, rfl⟩
  · have f1 : (l == [48]) = false := by rw [beq_eq_false_iff_ne]; exact h1
    by_cases h2 : l = []
    · have f2 : (l == []) = true := by rw [beq_iff_eq]; exact h2
      have HR : Hid (plB l = false) := by show _ = _; subst h2; rfl
      clear h1 h2
      go_enter Tryd.func24, Tryd.ntmps24
      go_wp2
      go_ret
      exact ⟨by rw [HR.out]; rfl, rfl⟩
    · have f2 : (l == []) = false := by rw [beq_eq_false_iff_ne]; exact h2
      have h0 : (0 : Int) < (l.length : Int) := by
        rcases l with _ | ⟨b, t⟩
        · exact absurd rfl h2
        · rw [List.length_cons]; omega
      have hix : ∀ h, ((bs l)[0]'h).toNat = gb l 0 := fun h => gb_at l 0 h
      by_cases h3 : gb l 0 = 48
      · have HR : Hid (plB l = false) := by show _ = _; unfold plB; rw [decide_eq_false h1, decide_eq_false (p := gb l 0 ≠ 48) (fun h => h h3)]; simp
        have h3' : ((gb l 0 : Nat) : Int) = 48 := by omega
        clear h1 h2
        go_enter Tryd.func24, Tryd.ntmps24
        go_wp2
        go_ret
        exact ⟨by rw [HR.out]; rfl, rfl⟩
      · have HR : Hid (plB l = true) := by show _ = _; unfold plB; rw [decide_eq_true h2, decide_eq_true h3]; simp
        have h3' : (((gb l 0 : Nat) : Int) != 48) = true := by rw [bne_iff_ne]; omega
        clear h1 h2
        go_enter Tryd.func24, Tryd.ntmps24
        go_wp2
        go_ret
        exact ⟨by rw [HR.out]; rfl, rfl⟩
set_option maxHeartbeats 2000000 in
theorem scut_any (q : List UInt8) (hq : q.length ≤ 9223372036854775807) (w : World) :
    Calls Tryd.prog 39 #[.string (bs q), .string ⟨#[46]⟩] w fun e w' => e = .returned (.tuple #[.string (bs (q.take (pos q))), .string (bs (q.drop (pos q + 1))), .bool (decide (pos q < q.length))]) ∧ Below w.heap.size w w' := by
  have z := bs_size q
  have zp : (ByteArray.mk #[46]).size = 1 := rfl
  have P1 : Hid (∀ W : World, Calls Tryd.prog 55 #[.string (bs q), .string ⟨#[46]⟩] W fun e w' => e = .returned (.int .i64 (if pos q < q.length then (pos q : Int) else -1)) ∧ w' = W) := by
    intro W
    have h := Tryd.stringslite_Index_one (bs q) 46 W
    rw [show (bs q).data.toList = q from rfl, index_pos] at h
    exact h
  have hp := pos_le q
  have hto := bs_to q (pos q)
  have hfr := bs_from q (pos q + 1)
  by_cases h : pos q < q.length
  · have P2 : Hid (∀ W : World, Calls Tryd.prog 55 #[.string (bs q), .string ⟨#[46]⟩] W fun e w' => e = .returned (.int .i64 (pos q : Int)) ∧ w' = W) := by
      intro W
      have h' := P1.out W
      rw [if_pos h] at h'
      exact h'
    rw [decide_eq_true h]
    clear P1
    generalize q.take (pos q) = qa at *
    generalize q.drop (pos q + 1) = qb at *
    generalize pos q = p at *
    have p0 : (0 : Int) ≤ (p : Int) := by omega
    have p1 : (p : Int) < (q.length : Int) := by omega
    have p2 : (p : Int) + 1 ≤ 9223372036854775807 := by omega
    go_enter Tryd.func39, Tryd.ntmps39
    go_wp2_with fail
    refine (P2.out _).mono ?_
    rintro e w1 ⟨rfl, rfl⟩
    clear P2
    go_wp2
    go_region
    all_goals go_wp2
    all_goals go_ret3
    all_goals exact ⟨rfl, (Below.refl _ _).drew⟩
  · have P2 : Hid (∀ W : World, Calls Tryd.prog 55 #[.string (bs q), .string ⟨#[46]⟩] W fun e w' => e = .returned (.int .i64 (-1)) ∧ w' = W) := by
      intro W
      have h' := P1.out W
      rw [if_neg h] at h'
      exact h'
    have HA : Hid (q.take (pos q) = q ∧ q.drop (pos q + 1) = []) := ⟨List.take_of_length_le (by omega), List.drop_of_length_le (by omega)⟩
    rw [decide_eq_false h, HA.out.1, HA.out.2]
    clear P1 h hto hfr
    go_enter Tryd.func39, Tryd.ntmps39
    go_wp2_with fail
    refine (P2.out _).mono ?_
    rintro e w1 ⟨rfl, rfl⟩
    clear P2
    go_wp2
    go_ret3
    exact ⟨rfl, Below.refl _ _⟩
set_option maxHeartbeats 2000000 in
theorem gcut_any (q : List UInt8) (hq : q.length ≤ 9223372036854775807) (w : World) :
    Calls Tryd.prog 23 #[.string (bs q), .string ⟨#[46]⟩] w fun e w' => e = .returned (.tuple #[.string (bs (q.take (pos q))), .string (bs (q.drop (pos q + 1))), .bool (decide (pos q < q.length))]) ∧ Below w.heap.size w w' := by
  have P : Hid (∀ W : World, Calls Tryd.prog 39 #[.string (bs q), .string ⟨#[46]⟩] W fun e w' => e = .returned (.tuple #[.string (bs (q.take (pos q))), .string (bs (q.drop (pos q + 1))), .bool (decide (pos q < q.length))]) ∧ Below W.heap.size W w') := fun W => scut_any q hq W
  generalize q.take (pos q) = qa at *
  generalize q.drop (pos q + 1) = qb at *
  generalize decide (pos q < q.length) = fo at *
  go_enter Tryd.func23, Tryd.ntmps23
  go_wp2_with fail
  refine (P.out _).mono ?_
  rintro e w1 ⟨rfl, W1⟩
  clear P
  go_wp2
  go_ret3
  exact ⟨rfl, W1⟩

theorem nx_ascii (w : World) (Z : Obj) (q : List UInt8) (j : Nat) (h : j < q.length) (ha : gb q j < 128) : ∀ ty, (Instr.next (.pointer (some ⟨w.heap.size + 1, 0, none⟩)) true ty).run Tryd.prog ((w.alloc Z).iter (bs q) j) = .ok (.tuple #[.bool true, .int .i64 (j : Int), .int .i32 ((gb q j : Nat) : Int)]) ((w.alloc Z).iter (bs q) (j + 1)) := by
  intro ty
  have h' : j < (bs q).size := by rw [bs_size]; exact h
  have hix : ((bs q)[j]'h').toNat = gb q j := gb_at q j h'
  have r := run_next_ascii (P := Tryd.prog) (w.alloc Z) (bs q) j ty h' (by rw [hix]; exact ha)
  rw [hix, World.size_alloc] at r
  exact r
theorem nx_high (w : World) (Z : Obj) (q : List UInt8) (j : Nat) (h : j < q.length) (ha : ¬ gb q j < 128) : ∃ R x : Nat, 128 ≤ R ∧ R ≤ 2147483647 ∧ ∀ ty, (Instr.next (.pointer (some ⟨w.heap.size + 1, 0, none⟩)) true ty).run Tryd.prog ((w.alloc Z).iter (bs q) j) = .ok (.tuple #[.bool true, .int .i64 (j : Int), .int .i32 (R : Int)]) ((w.alloc Z).iter (bs q) x) := by
  have h' : j < (bs q).size := by rw [bs_size]; exact h
  have hix : ((bs q)[j]'h').toNat = gb q j := gb_at q j h'
  refine ⟨(Utf8.decode (bs q) j).1, j + (Utf8.decode (bs q) j).2, (decode_high (bs q) j h' (by rw [hix]; omega)).1, decode_le _ _, fun ty => ?_⟩
  have r := run_next_any (P := Tryd.prog) (w.alloc Z) (bs q) j ty h'
  rw [World.size_alloc] at r
  exact r
theorem nx_end (w : World) (Z : Obj) (q : List UInt8) (j : Nat) (h : ¬ j < q.length) : ∀ ty, (Instr.next (.pointer (some ⟨w.heap.size + 1, 0, none⟩)) true ty).run Tryd.prog ((w.alloc Z).iter (bs q) j) = .ok (.tuple #[.bool false]) ((w.alloc Z).iter (bs q) j) := by
  intro ty
  have r := run_next_end (P := Tryd.prog) (w.alloc Z) (bs q) j ty (by rw [bs_size]; exact h)
  rw [World.size_alloc] at r
  exact r
theorem num_cells (w : World) (s : ByteArray) (x : Nat) {w1 : World} (hb : Below ((w.alloc (.cells #[.bool false, .string ⟨#[]⟩, .string ⟨#[]⟩] 33)).iter s x).heap.size ((w.alloc (.cells #[.bool false, .string ⟨#[]⟩, .string ⟨#[]⟩] 33)).iter s x) w1) :
    w1.cell? ⟨w.heap.size, 0, none⟩ = some (.bool false) ∧ w1.cell? ⟨w.heap.size, 1, none⟩ = some (.string ⟨#[]⟩) ∧ w1.cell? ⟨w.heap.size, 2, none⟩ = some (.string ⟨#[]⟩) ∧ w1.frozen? ⟨w.heap.size, 0, none⟩ = false ∧ w1.frozen? ⟨w.heap.size, 1, none⟩ = false ∧ w1.frozen? ⟨w.heap.size, 2, none⟩ = false ∧ Below w.heap.size w w1 := by
  have hh : ((w.alloc (.cells #[.bool false, .string ⟨#[]⟩, .string ⟨#[]⟩] 33)).iter s x).heap[w.heap.size]? = some (.cells #[.bool false, .string ⟨#[]⟩, .string ⟨#[]⟩] 33 (0, 0)) := (Below.heap_alloc _ _ _ (by rw [World.size_alloc]; omega)).trans (heap_alloc_last w _)
  have h1 : w1.heap[w.heap.size]? = some (.cells #[.bool false, .string ⟨#[]⟩, .string ⟨#[]⟩] 33 (0, 0)) := (hb.block _ (Array.getElem?_eq_some_iff.1 hh).1).trans hh
  refine ⟨?_, ?_, ?_, ?_, ?_, ?_, bchain (bel2 w _ (.stringIter s x)) hb⟩
  · rw [cell_of_row w1 _ 0 _ _ _ h1]; rfl
  · rw [cell_of_row w1 _ 1 _ _ _ h1]; rfl
  · rw [cell_of_row w1 _ 2 _ _ _ h1]; rfl
  · simp [World.frozen?, h1]
  · simp [World.frozen?, h1]
  · simp [World.frozen?, h1]

set_option maxRecDepth 100000 in
set_option maxHeartbeats 4000000 in
theorem gapart_any (l : List UInt8) (hl : l.length ≤ 9223372036854775807) (w : World) :
    Calls Tryd.prog 9 #[.string (bs l)] w fun e w' => e = .returned (.tuple #[.agg #[.bool (pB l), .string (bs (pA l)), .string (bs (pE l))], .bool (pOk l)]) ∧ Below w.heap.size w w' := by
  have P0 : Hid (∀ W : World, Calls Tryd.prog 22 #[.string (bs l), .string ⟨#[45]⟩] W fun e w' => e = .returned (.tuple #[.string (bs (pS l)), .bool (pB l)]) ∧ w' = W) := by
    intro W
    have h := Tryd.strings_CutPrefix (bs l) ⟨#[45]⟩ W
    rw [show (bs l).data.toList = l from rfl, show (ByteArray.mk #[45]).data.toList = [45] from rfl, (prefix_is l).1, (prefix_is l).2] at h
    exact h
  have hql : (pS l).length ≤ 9223372036854775807 := by
    unfold pS
    split
    · rw [List.length_drop]; omega
    · exact hl
  have PC : Hid (∀ W : World, Calls Tryd.prog 23 #[.string (bs (pS l)), .string ⟨#[46]⟩] W fun e w' => e = .returned (.tuple #[.string (bs (pA l)), .string (bs (pE l)), .bool (decide (pos (pS l) < (pS l).length))]) ∧ Below W.heap.size W w') := fun W => gcut_any (pS l) hql W
  have la : (pA l).length ≤ 9223372036854775807 := by unfold pA; rw [List.length_take]; omega
  have PP : Hid (∀ W : World, Calls Tryd.prog 24 #[.string (bs (pA l))] W fun e w' => e = .returned (.bool (plB (pA l))) ∧ w' = W) := fun W => gplain_any (pA l) la W
  have PH : Hid (∀ W : World, Calls Tryd.prog 25 #[.string (bs (pS l)), .string ⟨#[46]⟩] W fun e w' => e = .returned (.bool (Lib.hasSuffix (pS l) [46])) ∧ w' = W) := fun W => Tryd.strings_HasSuffix (bs (pS l)) ⟨#[46]⟩ W (by rw [bs_size]; exact hql)
  have HY : Hid (aG (pS l) → (plB (pA l) && !(Lib.hasSuffix (pS l) [46])) = pOk l) := apart_yes l
  have HX : Hid (¬ aG (pS l) → pOk l = false) := apart_no l
  clear la hl
  generalize pS l = q at *
  generalize pA l = qa at *
  generalize pE l = qb at *
  generalize pB l = bel at *
  generalize pOk l = ok at *
  generalize plB qa = pl at *
  generalize Lib.hasSuffix q [46] = sf at *
  generalize decide (pos q < q.length) = fo at *
  have zq := bs_size q
  go_enter Tryd.func9, Tryd.ntmps9
  go_wp2_with fail
  go_step3
  go_wp2_with fail
  refine (P0.out _).mono ?_
  rintro e w1 ⟨rfl, hw1⟩
  subst hw1
  clear P0
  go_wp2_with fail
  go_step3
  go_wp2_with fail
  go_loopw [6, 7] (fun s6 s7 wr => ∃ j : Nat, j ≤ q.length ∧ s6 = .int .i64 (j : Int) ∧ s7 = .int .i64 (if pos q < j then 1 else 0) ∧ (∀ i, i < j → i ≠ pos q → isd (gb q i) = true) ∧ wr = (w.alloc (.cells #[.bool false, .string ⟨#[]⟩, .string ⟨#[]⟩] 33)).iter (bs q) j) (fun s6 _ _ => q.length - (intOf s6).toNat)
  case atStart => exact ⟨0, by omega, rfl, by rw [if_neg (by omega)], fun i hi => by omega, rfl⟩
  case round =>
    obtain ⟨j, hj, rfl, rfl, hA, rfl⟩ := hrel
    have HA : Hid (∀ i, i < j → i ≠ pos q → isd (gb q i) = true) := hA
    clear hA
    by_cases hlt : j < q.length
    · have hjI : (j : Int) < (q.length : Int) := by omega
      by_cases h128 : gb q j < 128
      · have hnx := nx_ascii w (.cells #[.bool false, .string ⟨#[]⟩, .string ⟨#[]⟩] 33) q j hlt h128
        by_cases hd : isd (gb q j) = true
        · have hd2 := hd
          unfold isd at hd2
          rw [Bool.and_eq_true, decide_eq_true_iff, decide_eq_true_iff] at hd2
          have d0 : (48 : Int) ≤ ((gb q j : Nat) : Int) := by omega
          have d1 : ((gb q j : Nat) : Int) ≤ 57 := by omega
          have hne : pos q ≠ j := by
            intro e
            have h := pos_at q (by omega)
            rw [e] at h
            omega
          have HI : Hid ((if pos q < j + 1 then (1 : Int) else 0) = if pos q < j then 1 else 0) := by
            show _ = _
            by_cases h : pos q < j
            · rw [if_pos h, if_pos (by omega)]
            · rw [if_neg h, if_neg (by omega)]
          have HA2 : Hid (∀ i, i < j + 1 → i ≠ pos q → isd (gb q i) = true) := by
            intro i hi hn
            rcases Nat.lt_or_ge i j with h | h
            · exact HA.out i h hn
            · obtain rfl : i = j := by omega
              exact hd
          clear hd hd2 hne HA HX HY PP PH PC h128
          generalize (if pos q < j then (1 : Int) else 0) = pt at *
          go_wp2
          go_roundw
          case rel => exact ⟨j + 1, by omega, by go_num, by rw [HI.out], HA2.out, rfl⟩
          case measure => simp [intOf]; omega
        · by_cases h46 : gb q j = 46
          · have c46 : ((gb q j : Nat) : Int) = 46 := by omega
            by_cases hp : pos q < j
            · have HNG : Hid (¬ aG q) := fun g => by
                have h := g j hlt (by omega)
                rw [isd_not _ h46] at h
                cases h
              rw [if_pos hp]
              clear hd hp h128 h46
              have HO : Hid (ok = false) := HX.out HNG.out
              have hjl : ¬ (j : Int) = (q.length : Int) := by omega
              clear HX HY HNG HA PP PH
              go_wp2_with fail
              refine (PC.out _).mono ?_
              rintro e w1 ⟨rfl, hb⟩
              obtain ⟨C0, C1, C2, F0, F1, F2, HB⟩ := num_cells w (bs q) _ hb
              have HW : Hid (Below w.heap.size w w1) := HB
              clear hb HB PC
              go_wp2
              try rw [Exit.noGoto_ret]
              exact bodyPost_ret (v := .tuple #[.agg #[.bool bel, .string (bs qa), .string (bs qb)], .bool false]) (by simp [results, Tryd.results9, go_sem, C0, C1, C2]) rfl ⟨by rw [HO.out], ((HW.out.setCell (p := ⟨w.heap.size, 0, none⟩) (Nat.le_refl _) _).setCell (p := ⟨w.heap.size, 1, none⟩) (Nat.le_refl _) _).setCell (p := ⟨w.heap.size, 2, none⟩) (Nat.le_refl _) _⟩
            · have hpe : pos q = j := by
                refine pos_is q j hj (fun i hi => ?_) (Or.inr h46)
                intro e
                have h := HA.out i hi (by omega)
                rw [isd_not _ e] at h
                cases h
              have HI : Hid ((if pos q < j + 1 then (1 : Int) else 0) = 1) := by show _ = _; rw [if_pos (by omega)]
              have HA2 : Hid (∀ i, i < j + 1 → i ≠ pos q → isd (gb q i) = true) := by
                intro i hi hn
                exact HA.out i (by omega) hn
              rw [if_neg hp]
              clear hd hp hpe HA HX HY PP PH PC h128 h46
              go_wp2
              go_roundw
              case rel => exact ⟨j + 1, by omega, by go_num, by rw [HI.out], HA2.out, rfl⟩
              case measure => simp [intOf]; omega
          · have c46 : ¬ ((gb q j : Nat) : Int) = 46 := by omega
            have HNG : Hid (¬ aG q) := fun g => by
              by_cases e : j = pos q
              · have h := pos_at q (by omega)
                rw [← e] at h
                exact h46 h
              · exact hd (g j hlt e)
            have hd2 : gb q j < 48 ∨ 57 < gb q j := by
              rcases Nat.lt_or_ge (gb q j) 48 with h | h
              · exact Or.inl h
              · refine Or.inr (Nat.lt_of_not_le fun h2 => hd ?_)
                unfold isd
                rw [Bool.and_eq_true, decide_eq_true_iff, decide_eq_true_iff]
                exact ⟨h, h2⟩
            generalize (if pos q < j then (1 : Int) else 0) = pt at *
            rcases hd2 with h1 | h1
            · have d0 : ((gb q j : Nat) : Int) < 48 := by omega
              clear hd h128 h46 h1
              have HO : Hid (ok = false) := HX.out HNG.out
              have hjl : ¬ (j : Int) = (q.length : Int) := by omega
              clear HX HY HNG HA PP PH
              go_wp2_with fail
              refine (PC.out _).mono ?_
              rintro e w1 ⟨rfl, hb⟩
              obtain ⟨C0, C1, C2, F0, F1, F2, HB⟩ := num_cells w (bs q) _ hb
              have HW : Hid (Below w.heap.size w w1) := HB
              clear hb HB PC
              go_wp2
              try rw [Exit.noGoto_ret]
              exact bodyPost_ret (v := .tuple #[.agg #[.bool bel, .string (bs qa), .string (bs qb)], .bool false]) (by simp [results, Tryd.results9, go_sem, C0, C1, C2]) rfl ⟨by rw [HO.out], ((HW.out.setCell (p := ⟨w.heap.size, 0, none⟩) (Nat.le_refl _) _).setCell (p := ⟨w.heap.size, 1, none⟩) (Nat.le_refl _) _).setCell (p := ⟨w.heap.size, 2, none⟩) (Nat.le_refl _) _⟩
            · have d0 : (48 : Int) ≤ ((gb q j : Nat) : Int) := by omega
              have d1 : (57 : Int) < ((gb q j : Nat) : Int) := by omega
              clear hd h128 h46 h1
              have HO : Hid (ok = false) := HX.out HNG.out
              have hjl : ¬ (j : Int) = (q.length : Int) := by omega
              clear HX HY HNG HA PP PH
              go_wp2_with fail
              refine (PC.out _).mono ?_
              rintro e w1 ⟨rfl, hb⟩
              obtain ⟨C0, C1, C2, F0, F1, F2, HB⟩ := num_cells w (bs q) _ hb
              have HW : Hid (Below w.heap.size w w1) := HB
              clear hb HB PC
              go_wp2
              try rw [Exit.noGoto_ret]
              exact bodyPost_ret (v := .tuple #[.agg #[.bool bel, .string (bs qa), .string (bs qb)], .bool false]) (by simp [results, Tryd.results9, go_sem, C0, C1, C2]) rfl ⟨by rw [HO.out], ((HW.out.setCell (p := ⟨w.heap.size, 0, none⟩) (Nat.le_refl _) _).setCell (p := ⟨w.heap.size, 1, none⟩) (Nat.le_refl _) _).setCell (p := ⟨w.heap.size, 2, none⟩) (Nat.le_refl _) _⟩
      · obtain ⟨R, x, R0, R1, hnx⟩ := nx_high w (.cells #[.bool false, .string ⟨#[]⟩, .string ⟨#[]⟩] 33) q j hlt h128
        have HNG : Hid (¬ aG q) := fun g => by
          by_cases e : j = pos q
          · have h := pos_at q (by omega)
            rw [← e] at h
            omega
          · have h := g j hlt e
            unfold isd at h
            rw [Bool.and_eq_true, decide_eq_true_iff, decide_eq_true_iff] at h
            omega
        have d0 : (48 : Int) ≤ (R : Int) := by omega
        have d1 : (57 : Int) < (R : Int) := by omega
        have c46 : ¬ (R : Int) = 46 := by omega
        generalize (if pos q < j then (1 : Int) else 0) = pt at *
        clear h128
        have HO : Hid (ok = false) := HX.out HNG.out
        have hjl : ¬ (j : Int) = (q.length : Int) := by omega
        clear HX HY HNG HA PP PH
        go_wp2_with fail
        refine (PC.out _).mono ?_
        rintro e w1 ⟨rfl, hb⟩
        obtain ⟨C0, C1, C2, F0, F1, F2, HB⟩ := num_cells w (bs q) _ hb
        have HW : Hid (Below w.heap.size w w1) := HB
        clear hb HB PC
        go_wp2
        try rw [Exit.noGoto_ret]
        exact bodyPost_ret (v := .tuple #[.agg #[.bool bel, .string (bs qa), .string (bs qb)], .bool false]) (by simp [results, Tryd.results9, go_sem, C0, C1, C2]) rfl ⟨by rw [HO.out], ((HW.out.setCell (p := ⟨w.heap.size, 0, none⟩) (Nat.le_refl _) _).setCell (p := ⟨w.heap.size, 1, none⟩) (Nat.le_refl _) _).setCell (p := ⟨w.heap.size, 2, none⟩) (Nat.le_refl _) _⟩
    · have hje : j = q.length := by omega
      have hnx := nx_end w (.cells #[.bool false, .string ⟨#[]⟩, .string ⟨#[]⟩] 33) q j hlt
      have HG : Hid (aG q) := fun i hi hn => HA.out i (by omega) hn
      have hjl : (j : Int) = (q.length : Int) := by omega
      have HO1 := HY.out HG.out
      generalize (if pos q < j then (1 : Int) else 0) = pt at *
      clear HX HY HG HA hje hlt
      go_wp2_with fail
      refine (PC.out _).mono ?_
      rintro e w1 ⟨rfl, hb⟩
      obtain ⟨C0, C1, C2, F0, F1, F2, HB⟩ := num_cells w (bs q) _ hb
      have HW : Hid (Below w.heap.size w w1) := HB
      clear hb HB PC
      have ee : (((q.length : Nat) : Int) == ((q.length : Nat) : Int)) = true := by simp
      go_wp2_with fail
      refine (PP.out _).mono ?_
      rintro e w2 ⟨rfl, hw2⟩
      subst hw2
      clear PP
      cases pl
      · have HO : Hid (ok = false) := by show _ = _; rw [← HO1]; rfl
        clear HO1 PH
        go_wp2
        try rw [Exit.noGoto_ret]
        exact bodyPost_ret (v := .tuple #[.agg #[.bool bel, .string (bs qa), .string (bs qb)], .bool false]) (by simp [results, Tryd.results9, go_sem, C0, C1, C2]) rfl ⟨by rw [HO.out], ((HW.out.setCell (p := ⟨w.heap.size, 0, none⟩) (Nat.le_refl _) _).setCell (p := ⟨w.heap.size, 1, none⟩) (Nat.le_refl _) _).setCell (p := ⟨w.heap.size, 2, none⟩) (Nat.le_refl _) _⟩
      · go_wp2_with fail
        refine (PH.out _).mono ?_
        rintro e w3 ⟨rfl, hw3⟩
        subst hw3
        clear PH
        have HO : Hid (ok = !sf) := by show _ = _; rw [← HO1]; rfl
        clear HO1
        go_wp2
        try rw [Exit.noGoto_ret]
        exact bodyPost_ret (v := .tuple #[.agg #[.bool bel, .string (bs qa), .string (bs qb)], .bool (!sf)]) (by simp [results, Tryd.results9, go_sem, C0, C1, C2]) rfl ⟨by rw [HO.out], ((HW.out.setCell (p := ⟨w.heap.size, 0, none⟩) (Nat.le_refl _) _).setCell (p := ⟨w.heap.size, 1, none⟩) (Nat.le_refl _) _).setCell (p := ⟨w.heap.size, 2, none⟩) (Nat.le_refl _) _⟩
end Go.Proofs.YtekdpeiemfppiabDoor
