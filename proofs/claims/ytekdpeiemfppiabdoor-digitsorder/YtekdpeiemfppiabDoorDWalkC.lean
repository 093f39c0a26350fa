/-
  The contracts of regattaref03's all and Parts.
-/
import Derived.Test.YtekdpeiemfppiabDoorDWalkA
set_option linter.unusedVariables false
set_option linter.unusedSimpArgs false
namespace Go.Proofs.YtekdpeiemfppiabDoor
open Go.RowKit

/-- A byte of a list, as a number. -/
def gb (l : List UInt8) (i : Nat) : Nat := (l.getD i 0).toNat
theorem gb_at (l : List UInt8) (i : Nat) (h : i < (bs l).size) : ((bs l)[i]'h).toNat = gb l i := by
  have h' : i < l.length := by rw [bs_size] at h; exact h
  unfold gb bs
  simp [h']
  rfl
theorem gb_lt (l : List UInt8) (i : Nat) : gb l i < 256 := by unfold gb; exact UInt8.toNat_lt _
/-- Is it a digit? -/
def isd (n : Nat) : Bool := decide (48 ≤ n) && decide (n ≤ 57)
/-- Digits, and nothing else. -/
def isD (l : List UInt8) : Bool := l.all (fun b => isd b.toNat) && decide (0 < l.length)
theorem all_gb (l : List UInt8) : (l.all (fun b => isd b.toNat) = true) ↔ ∀ i, i < l.length → isd (gb l i) = true := by
  rw [List.all_eq_true]
  constructor
  · intro h i hi
    have : gb l i = (l[i]'hi).toNat := by unfold gb; simp [List.getD, hi]
    rw [this]
    exact h _ (List.getElem_mem hi)
  · intro h b hb
    obtain ⟨i, hi, rfl⟩ := List.getElem_of_mem hb
    have := h i hi
    have e : gb l i = (l[i]'hi).toNat := by unfold gb; simp [List.getD, hi]
    rw [e] at this
    exact this

set_option maxHeartbeats 1000000 in
theorem sall_any (l : List UInt8) (hl : l.length ≤ 9223372036854775807) (w : World) :
    Calls Tryd.prog 8 #[.string (bs l)] w fun e w' => e = .returned (.bool (isD l)) ∧ w' = w := by
  have z := bs_size l
  obtain ⟨R, hR⟩ : ∃ R, isD l = R := ⟨_, rfl⟩
  rw [hR]
  have HR : Hid (isD l = R) := hR
  clear hR
  go_enter Tryd.func8, Tryd.ntmps8
  go_wp2
  go_loopw [3] (fun s3 wr => ∃ j : Nat, j ≤ l.length ∧ s3 = .int .i64 (j : Int) ∧ (∀ i, i < j → isd (gb l i) = true) ∧ wr = w) (fun s3 _ => l.length - (intOf s3).toNat)
  case atStart => exact ⟨0, by omega, rfl, fun i hi => by omega, rfl⟩
  case round =>
    obtain ⟨j, hj, rfl, hA, hw⟩ := hrel
    subst hw
    have HA : Hid (∀ i, i < j → isd (gb l i) = true) := hA
    clear hA
    by_cases hlt : (j : Int) < (l.length : Int)
    · have hix : ∀ h, ((bs l)[j]'h).toNat = gb l j := fun h => gb_at l j h
      have hj0 : (0 : Int) ≤ (j : Int) := by omega
      have h256 := gb_lt l j
      by_cases c1 : (gb l j : Int) < 48
      · have HF : Hid (R = false) := by
          show _ = _
          rw [← HR.out]
          unfold isD
          rw [show l.all (fun b => isd b.toNat) = false from by
            rw [Bool.eq_false_iff]
            intro h
            have := (all_gb l).1 h j (by omega)
            unfold isd at this
            simp at this
            omega]
          rfl
        clear HR HA
        go_wp2
        go_ret
        exact ⟨by rw [HF.out]; rfl, rfl⟩
      · by_cases c2 : 57 < (gb l j : Int)
        · have HF : Hid (R = false) := by
            show _ = _
            rw [← HR.out]
            unfold isD
            rw [show l.all (fun b => isd b.toNat) = false from by
              rw [Bool.eq_false_iff]
              intro h
              have := (all_gb l).1 h j (by omega)
              unfold isd at this
              simp at this
              omega]
            rfl
          clear HR HA
          go_wp2
          go_ret
          exact ⟨by rw [HF.out]; rfl, rfl⟩
        · have HA2 : Hid (∀ i, i < j + 1 → isd (gb l i) = true) := by
            intro i hi
            rcases Nat.lt_or_ge i j with h | h
            · exact HA.out i h
            · obtain rfl : i = j := by omega
              unfold isd
              simp
              omega
          clear HA
          go_wp2
          go_roundw
          case rel => exact ⟨j + 1, by omega, by rw [show ((j + 1 : Nat) : Int) = (j : Int) + 1 by omega], HA2.out, trivial⟩
          case measure => simp [intOf]; omega
    · have HF : Hid (R = decide (0 < l.length)) := by
        show _ = _
        rw [← HR.out]
        unfold isD
        rw [(all_gb l).2 (fun i hi => HA.out i (by omega))]
        rfl
      clear HR HA
      go_wp2
      go_ret
      exact ⟨by rw [HF.out]; simp, rfl⟩

/-- Where the point stands, or how long it is. -/
def pos : List UInt8 → Nat
  | [] => 0
  | b :: t => if b.toNat = 46 then 0 else pos t + 1
theorem gb_cons (b : UInt8) (t : List UInt8) (i : Nat) : gb (b :: t) (i + 1) = gb t i := rfl
theorem pos_le (l : List UInt8) : pos l ≤ l.length := by
  induction l with
  | nil => exact Nat.le_refl _
  | cons b t ih => unfold pos; split <;> simp; exact ih
theorem pos_is (l : List UInt8) : ∀ j, j ≤ l.length → (∀ i, i < j → gb l i ≠ 46) → (j = l.length ∨ gb l j = 46) → pos l = j := by
  induction l with
  | nil => intro j hj _ _; simp at hj; subst hj; rfl
  | cons b t ih =>
    intro j hj h1 h2
    unfold pos
    cases j with
    | zero =>
      rcases h2 with h | h
      · simp at h
      · rw [if_pos (by exact h)]
    | succ j =>
      have hb : b.toNat ≠ 46 := h1 0 (by omega)
      rw [if_neg hb, ih j (by simp at hj; omega) (fun i hi => h1 (i + 1) (by omega)) (by
        rcases h2 with h | h
        · simp at h; exact Or.inl h
        · exact Or.inr h)]
/-- A text's parts. -/
def pB (l : List UInt8) : Bool := decide (0 < l.length) && decide (gb l 0 = 45)
def pS (l : List UInt8) : List UInt8 := if pB l = true then l.drop 1 else l
def pA (l : List UInt8) : List UInt8 := (pS l).take (pos (pS l))
def pE (l : List UInt8) : List UInt8 := (pS l).drop (pos (pS l) + 1)
/-- What stands ahead of the point is a number. -/
def pO (l : List UInt8) : Bool := isD (pA l) && !(decide (1 < (pA l).length) && decide (gb (pA l) 0 = 48))
def pW (l : List UInt8) : Bool := decide (pos (pS l) = (pS l).length)
/-- It is a text of a number. -/
def pOk (l : List UInt8) : Bool := pO l && (pW l || isD (pE l))
theorem bs_ext (l : List UInt8) (a b : Nat) : (bs l).extract a b = bs ((l.drop a).take (b - a)) := ByteArray.extract_mk l a b
theorem bs_from (l : List UInt8) (a : Nat) : (bs l).extract a l.length = bs (l.drop a) := by
  rw [bs_ext, List.take_of_length_le (by simp)]
theorem bs_to (l : List UInt8) (b : Nat) : (bs l).extract 0 b = bs (l.take b) := by
  rw [bs_ext]; simp

set_option maxHeartbeats 4000000 in
theorem sparts_any (l : List UInt8) (hl : l.length ≤ 9223372036854775807) (w : World) :
    Calls Tryd.prog 5 #[.string (bs l)] w fun e w' => e = .returned (if pO l = true then .tuple #[.bool (pB l), .string (bs (pA l)), .string (bs (if pW l = true then [] else pE l)), .bool (pW l || isD (pE l))] else .tuple #[.bool false, .string (bs []), .string (bs []), .bool false]) ∧ Below w.heap.size w w' := by
  have z := bs_size l
  obtain ⟨R, hR⟩ : ∃ R : Value, (if pO l = true then .tuple #[.bool (pB l), .string (bs (pA l)), .string (bs (if pW l = true then [] else pE l)), .bool (pW l || isD (pE l))] else .tuple #[.bool false, .string (bs []), .string (bs []), .bool false]) = R := ⟨_, rfl⟩
  rw [hR]
  have HR : Hid ((if pO l = true then .tuple #[.bool (pB l), .string (bs (pA l)), .string (bs (if pW l = true then [] else pE l)), .bool (pW l || isD (pE l))] else .tuple #[.bool false, .string (bs []), .string (bs []), .bool false]) = R) := hR
  clear hR
  by_cases h0 : (0 : Int) < (l.length : Int)
  · have hix00 : ∀ h, ((bs l)[0]'h).toNat = gb l 0 := fun h => gb_at l 0 h
    by_cases h45 : (gb l 0 : Int) = 45
    · have HB : pB l = true := by unfold pB; simp; omega
      have hfr1 := bs_from l 1
      have HS : pS l = l.drop 1 := by unfold pS; rw [HB]; rfl
      obtain ⟨q, hq⟩ : ∃ q, l.drop 1 = q := ⟨_, rfl⟩
      have HQ : Hid ((if (isD (q.take (pos q)) && !(decide (1 < (q.take (pos q)).length) && decide (gb (q.take (pos q)) 0 = 48))) = true then .tuple #[.bool true, .string (bs (q.take (pos q))), .string (bs (if decide (pos q = q.length) = true then [] else q.drop (pos q + 1))), .bool (decide (pos q = q.length) || isD (q.drop (pos q + 1)))] else .tuple #[.bool false, .string (bs []), .string (bs []), .bool false]) = R) := by
        have h := HR.out
        unfold pO pW pA pE at h
        rw [HS, HB, hq] at h
        exact h
      clear HR HB HS
      have hql : q.length ≤ 9223372036854775807 := by rw [← hq]; rw [List.length_drop]; omega
      rw [hq] at hfr1
      go_enter Tryd.func5, Tryd.ntmps5
      have SAa : Hid (∀ W : World, Calls Tryd.prog 8 #[.string (bs (q.take (pos q)))] W fun e w' => e = .returned (.bool (isD (q.take (pos q)))) ∧ w' = W) := fun W => sall_any _ (by rw [List.length_take]; omega) W
      have SAb : Hid (∀ W : World, Calls Tryd.prog 8 #[.string (bs (q.drop (pos q + 1)))] W fun e w' => e = .returned (.bool (isD (q.drop (pos q + 1)))) ∧ w' = W) := fun W => sall_any _ (by rw [List.length_drop]; omega) W
      have zq := bs_size q
      go_wp2
      go_loopw [7] (fun s7 wr => ∃ j : Nat, j ≤ q.length ∧ s7 = .int .i64 (j : Int) ∧ (∀ i, i < j → gb q i ≠ 46) ∧ Below w.heap.size w wr) (fun s7 _ => q.length - (intOf s7).toNat)
      case atStart => exact ⟨0, by omega, rfl, fun i hi => by omega, Below.refl _ _⟩
      case round =>
        obtain ⟨j, hj, rfl, hA, hW⟩ := hrel
        have HA : Hid (∀ i, i < j → gb q i ≠ 46) := hA
        clear hA
        have hix : ∀ h, ((bs q)[j]'h).toNat = gb q j := fun h => gb_at q j h
        have hj0 : (0 : Int) ≤ (j : Int) := by omega
        by_cases hgo : j < q.length ∧ gb q j ≠ 46
        · obtain ⟨g1, g2⟩ := hgo
          have g1' : (j : Int) < (q.length : Int) := by omega
          have g2' : ¬ (gb q j : Int) = 46 := by omega
          have HA2 : Hid (∀ i, i < j + 1 → gb q i ≠ 46) := by
            intro i hi
            rcases Nat.lt_or_ge i j with h | h
            · exact HA.out i h
            · obtain rfl : i = j := by omega
              exact g2
          clear HA HQ SAa SAb
          go_wp2
          go_roundw
          case rel => exact ⟨j + 1, by omega, by rw [show ((j + 1 : Nat) : Int) = (j : Int) + 1 by omega], HA2.out, hW⟩
          case measure => simp [intOf]; omega
        · have hpos : pos q = j := pos_is q j hj HA.out (by omega)
          have hto := bs_to q j
          have hlt : (q.take j).length = j := by rw [List.length_take]; omega
          have SA1 := SAa.out
          have SA3 := SAb.out
          have HQ1 := HQ.out
          rw [hpos] at SA1 SA3 HQ1
          have z2 := bs_size (q.take j)
          have hix0 : ∀ h, ((bs (q.take j))[0]'h).toNat = gb (q.take j) 0 := fun h => gb_at _ 0 h
          have hfr := bs_from q (j + 1)
          clear HA SAa SAb HQ
          generalize q.take j = qa at *
          generalize q.drop (j + 1) = qb at *
          cases hD : isD qa
          · rw [hD] at SA1 HQ1
            have SA2 : Hid (∀ W : World, Calls Tryd.prog 8 #[.string (bs qa)] W fun e w' => e = .returned (.bool false) ∧ w' = W) := SA1
            have HR2 : Hid (R = .tuple #[.bool false, .string (bs []), .string (bs []), .bool false]) := HQ1.symm
            clear SA1 SA3 HQ1 hD hpos
            by_cases gj : (j : Int) < (q.length : Int)
            · have g2 : (gb q j : Int) = 46 := by omega
              clear hgo
              go_wp2_with fail
              refine (SA2.out _).mono ?_
              rintro e wz ⟨rfl, hz⟩
              subst hz
              go_wp2
              exact bodyPost_ret (v := .tuple #[.bool false, .string (bs []), .string (bs []), .bool false]) (by simp [results, Tryd.results5, go_sem] <;> rfl) rfl ⟨by rw [HR2.out], hW⟩
            · clear hgo
              go_wp2_with fail
              refine (SA2.out _).mono ?_
              rintro e wz ⟨rfl, hz⟩
              subst hz
              go_wp2
              exact bodyPost_ret (v := .tuple #[.bool false, .string (bs []), .string (bs []), .bool false]) (by simp [results, Tryd.results5, go_sem] <;> rfl) rfl ⟨by rw [HR2.out], hW⟩
          · rw [hD] at SA1 HQ1
            have SA2 : Hid (∀ W : World, Calls Tryd.prog 8 #[.string (bs qa)] W fun e w' => e = .returned (.bool true) ∧ w' = W) := SA1
            clear SA1 hD hpos
            by_cases hz : 1 < qa.length ∧ gb qa 0 = 48
            · have HR2 : Hid (R = .tuple #[.bool false, .string (bs []), .string (bs []), .bool false]) := by
                show _ = _
                rw [← HQ1, decide_eq_true hz.1, decide_eq_true hz.2]
                rfl
              have k1 : (1 : Int) < (j : Int) := by omega
              have k2 : (gb qa 0 : Int) = 48 := by omega
              clear HQ1 SA3 hz
              by_cases gj : (j : Int) < (q.length : Int)
              · have g2 : (gb q j : Int) = 46 := by omega
                clear hgo
                go_wp2_with fail
                refine (SA2.out _).mono ?_
                rintro e wz ⟨rfl, hz⟩
                subst hz
                go_wp2
                exact bodyPost_ret (v := .tuple #[.bool false, .string (bs []), .string (bs []), .bool false]) (by simp [results, Tryd.results5, go_sem] <;> rfl) rfl ⟨by rw [HR2.out], hW⟩
              · clear hgo
                go_wp2_with fail
                refine (SA2.out _).mono ?_
                rintro e wz ⟨rfl, hz⟩
                subst hz
                go_wp2
                exact bodyPost_ret (v := .tuple #[.bool false, .string (bs []), .string (bs []), .bool false]) (by simp [results, Tryd.results5, go_sem] <;> rfl) rfl ⟨by rw [HR2.out], hW⟩
            · have hz2 : (true && !(decide (1 < qa.length) && decide (gb qa 0 = 48))) = true := by
                by_cases h : 1 < qa.length
                · have h2 : ¬ gb qa 0 = 48 := fun h' => hz ⟨h, h'⟩
                  rw [decide_eq_false h2]; simp
                · rw [decide_eq_false h]; rfl
              rw [if_pos hz2] at HQ1
              by_cases gj : (j : Int) < (q.length : Int)
              · have g2 : (gb q j : Int) = 46 := by omega
                rw [decide_eq_false (show ¬ j = q.length by omega)] at HQ1
                have HR2 : Hid (R = .tuple #[.bool true, .string (bs qa), .string (bs qb), .bool (isD qb)]) := HQ1.symm
                have SA4 : Hid (∀ W : World, Calls Tryd.prog 8 #[.string (bs qb)] W fun e w' => e = .returned (.bool (isD qb)) ∧ w' = W) := SA3
                have gn : ¬ (j : Int) = (q.length : Int) := by omega
                clear HQ1 SA3 hz2 hgo
                by_cases k1 : (1 : Int) < (j : Int)
                · have k2 : ¬ (gb qa 0 : Int) = 48 := by omega
                  clear hz
                  go_wp2_with fail
                  refine (SA2.out _).mono ?_
                  rintro e wz ⟨rfl, hz⟩
                  subst hz
                  go_wp2_with fail
                  refine (SA4.out _).mono ?_
                  rintro e wz ⟨rfl, hz⟩
                  subst hz
                  go_wp2
                  exact bodyPost_ret (v := .tuple #[.bool true, .string (bs qa), .string (bs qb), .bool (isD qb)]) (by simp [results, Tryd.results5, go_sem] <;> rfl) rfl ⟨by rw [HR2.out], hW⟩
                · clear hz
                  go_wp2_with fail
                  refine (SA2.out _).mono ?_
                  rintro e wz ⟨rfl, hz⟩
                  subst hz
                  go_wp2_with fail
                  refine (SA4.out _).mono ?_
                  rintro e wz ⟨rfl, hz⟩
                  subst hz
                  go_wp2
                  exact bodyPost_ret (v := .tuple #[.bool true, .string (bs qa), .string (bs qb), .bool (isD qb)]) (by simp [results, Tryd.results5, go_sem] <;> rfl) rfl ⟨by rw [HR2.out], hW⟩
              · rw [decide_eq_true (show j = q.length by omega)] at HQ1
                have HR2 : Hid (R = .tuple #[.bool true, .string (bs qa), .string (bs []), .bool true]) := HQ1.symm
                have gn : ((j : Int) == (q.length : Int)) = true := by simp; omega
                clear HQ1 SA3 hz2 hgo
                by_cases k1 : (1 : Int) < (j : Int)
                · have k2 : ¬ (gb qa 0 : Int) = 48 := by omega
                  clear hz
                  go_wp2_with fail
                  refine (SA2.out _).mono ?_
                  rintro e wz ⟨rfl, hz⟩
                  subst hz
                  go_wp2
                  exact bodyPost_ret (v := .tuple #[.bool true, .string (bs qa), .string (bs []), .bool true]) (by simp [results, Tryd.results5, go_sem] <;> rfl) rfl ⟨by rw [HR2.out], hW⟩
                · clear hz
                  go_wp2_with fail
                  refine (SA2.out _).mono ?_
                  rintro e wz ⟨rfl, hz⟩
                  subst hz
                  go_wp2
                  exact bodyPost_ret (v := .tuple #[.bool true, .string (bs qa), .string (bs []), .bool true]) (by simp [results, Tryd.results5, go_sem] <;> rfl) rfl ⟨by rw [HR2.out], hW⟩
    · have HB : pB l = false := by unfold pB; simp; omega
      have HS : pS l = l := by unfold pS; rw [HB]; rfl
      obtain ⟨q, hq⟩ : ∃ q, l = q := ⟨_, rfl⟩
      have HQ : Hid ((if (isD (q.take (pos q)) && !(decide (1 < (q.take (pos q)).length) && decide (gb (q.take (pos q)) 0 = 48))) = true then .tuple #[.bool false, .string (bs (q.take (pos q))), .string (bs (if decide (pos q = q.length) = true then [] else q.drop (pos q + 1))), .bool (decide (pos q = q.length) || isD (q.drop (pos q + 1)))] else .tuple #[.bool false, .string (bs []), .string (bs []), .bool false]) = R) := by
        have h := HR.out
        unfold pO pW pA pE at h
        rw [HS, HB, hq] at h
        exact h
      clear HR HB HS
      have hql : q.length ≤ 9223372036854775807 := by rw [← hq]; omega
      obtain rfl := hq.symm
      go_enter Tryd.func5, Tryd.ntmps5
      have SAa : Hid (∀ W : World, Calls Tryd.prog 8 #[.string (bs (q.take (pos q)))] W fun e w' => e = .returned (.bool (isD (q.take (pos q)))) ∧ w' = W) := fun W => sall_any _ (by rw [List.length_take]; omega) W
      have SAb : Hid (∀ W : World, Calls Tryd.prog 8 #[.string (bs (q.drop (pos q + 1)))] W fun e w' => e = .returned (.bool (isD (q.drop (pos q + 1)))) ∧ w' = W) := fun W => sall_any _ (by rw [List.length_drop]; omega) W
      have zq := bs_size q
      go_wp2
      go_loopw [7] (fun s7 wr => ∃ j : Nat, j ≤ q.length ∧ s7 = .int .i64 (j : Int) ∧ (∀ i, i < j → gb q i ≠ 46) ∧ Below w.heap.size w wr) (fun s7 _ => q.length - (intOf s7).toNat)
      case atStart => exact ⟨0, by omega, rfl, fun i hi => by omega, Below.refl _ _⟩
      case round =>
        obtain ⟨j, hj, rfl, hA, hW⟩ := hrel
        have HA : Hid (∀ i, i < j → gb q i ≠ 46) := hA
        clear hA
        have hix : ∀ h, ((bs q)[j]'h).toNat = gb q j := fun h => gb_at q j h
        have hj0 : (0 : Int) ≤ (j : Int) := by omega
        by_cases hgo : j < q.length ∧ gb q j ≠ 46
        · obtain ⟨g1, g2⟩ := hgo
          have g1' : (j : Int) < (q.length : Int) := by omega
          have g2' : ¬ (gb q j : Int) = 46 := by omega
          have HA2 : Hid (∀ i, i < j + 1 → gb q i ≠ 46) := by
            intro i hi
            rcases Nat.lt_or_ge i j with h | h
            · exact HA.out i h
            · obtain rfl : i = j := by omega
              exact g2
          clear HA HQ SAa SAb
          go_wp2
          go_roundw
          case rel => exact ⟨j + 1, by omega, by rw [show ((j + 1 : Nat) : Int) = (j : Int) + 1 by omega], HA2.out, hW⟩
          case measure => simp [intOf]; omega
        · have hpos : pos q = j := pos_is q j hj HA.out (by omega)
          have hto := bs_to q j
          have hlt : (q.take j).length = j := by rw [List.length_take]; omega
          have SA1 := SAa.out
          have SA3 := SAb.out
          have HQ1 := HQ.out
          rw [hpos] at SA1 SA3 HQ1
          have z2 := bs_size (q.take j)
          have hix0 : ∀ h, ((bs (q.take j))[0]'h).toNat = gb (q.take j) 0 := fun h => gb_at _ 0 h
          have hfr := bs_from q (j + 1)
          clear HA SAa SAb HQ
          generalize q.take j = qa at *
          generalize q.drop (j + 1) = qb at *
          cases hD : isD qa
          · rw [hD] at SA1 HQ1
            have SA2 : Hid (∀ W : World, Calls Tryd.prog 8 #[.string (bs qa)] W fun e w' => e = .returned (.bool false) ∧ w' = W) := SA1
            have HR2 : Hid (R = .tuple #[.bool false, .string (bs []), .string (bs []), .bool false]) := HQ1.symm
            clear SA1 SA3 HQ1 hD hpos
            by_cases gj : (j : Int) < (q.length : Int)
            · have g2 : (gb q j : Int) = 46 := by omega
              clear hgo
              go_wp2_with fail
              refine (SA2.out _).mono ?_
              rintro e wz ⟨rfl, hz⟩
              subst hz
              go_wp2
              exact bodyPost_ret (v := .tuple #[.bool false, .string (bs []), .string (bs []), .bool false]) (by simp [results, Tryd.results5, go_sem] <;> rfl) rfl ⟨by rw [HR2.out], hW⟩
            · clear hgo
              go_wp2_with fail
              refine (SA2.out _).mono ?_
              rintro e wz ⟨rfl, hz⟩
              subst hz
              go_wp2
              exact bodyPost_ret (v := .tuple #[.bool false, .string (bs []), .string (bs []), .bool false]) (by simp [results, Tryd.results5, go_sem] <;> rfl) rfl ⟨by rw [HR2.out], hW⟩
          · rw [hD] at SA1 HQ1
            have SA2 : Hid (∀ W : World, Calls Tryd.prog 8 #[.string (bs qa)] W fun e w' => e = .returned (.bool true) ∧ w' = W) := SA1
            clear SA1 hD hpos
            by_cases hz : 1 < qa.length ∧ gb qa 0 = 48
            · have HR2 : Hid (R = .tuple #[.bool false, .string (bs []), .string (bs []), .bool false]) := by
                show _ = _
                rw [← HQ1, decide_eq_true hz.1, decide_eq_true hz.2]
                rfl
              have k1 : (1 : Int) < (j : Int) := by omega
              have k2 : (gb qa 0 : Int) = 48 := by omega
              clear HQ1 SA3 hz
              by_cases gj : (j : Int) < (q.length : Int)
              · have g2 : (gb q j : Int) = 46 := by omega
                clear hgo
                go_wp2_with fail
                refine (SA2.out _).mono ?_
                rintro e wz ⟨rfl, hz⟩
                subst hz
                go_wp2
                exact bodyPost_ret (v := .tuple #[.bool false, .string (bs []), .string (bs []), .bool false]) (by simp [results, Tryd.results5, go_sem] <;> rfl) rfl ⟨by rw [HR2.out], hW⟩
              · clear hgo
                go_wp2_with fail
                refine (SA2.out _).mono ?_
                rintro e wz ⟨rfl, hz⟩
                subst hz
                go_wp2
                exact bodyPost_ret (v := .tuple #[.bool false, .string (bs []), .string (bs []), .bool false]) (by simp [results, Tryd.results5, go_sem] <;> rfl) rfl ⟨by rw [HR2.out], hW⟩
            · have hz2 : (true && !(decide (1 < qa.length) && decide (gb qa 0 = 48))) = true := by
                by_cases h : 1 < qa.length
                · have h2 : ¬ gb qa 0 = 48 := fun h' => hz ⟨h, h'⟩
                  rw [decide_eq_false h2]; simp
                · rw [decide_eq_false h]; rfl
              rw [if_pos hz2] at HQ1
              by_cases gj : (j : Int) < (q.length : Int)
              · have g2 : (gb q j : Int) = 46 := by omega
                rw [decide_eq_false (show ¬ j = q.length by omega)] at HQ1
                have HR2 : Hid (R = .tuple #[.bool false, .string (bs qa), .string (bs qb), .bool (isD qb)]) := HQ1.symm
                have SA4 : Hid (∀ W : World, Calls Tryd.prog 8 #[.string (bs qb)] W fun e w' => e = .returned (.bool (isD qb)) ∧ w' = W) := SA3
                have gn : ¬ (j : Int) = (q.length : Int) := by omega
                clear HQ1 SA3 hz2 hgo
                by_cases k1 : (1 : Int) < (j : Int)
                · have k2 : ¬ (gb qa 0 : Int) = 48 := by omega
                  clear hz
                  go_wp2_with fail
                  refine (SA2.out _).mono ?_
                  rintro e wz ⟨rfl, hz⟩
                  subst hz
                  go_wp2_with fail
                  refine (SA4.out _).mono ?_
                  rintro e wz ⟨rfl, hz⟩
                  subst hz
                  go_wp2
                  exact bodyPost_ret (v := .tuple #[.bool false, .string (bs qa), .string (bs qb), .bool (isD qb)]) (by simp [results, Tryd.results5, go_sem] <;> rfl) rfl ⟨by rw [HR2.out], hW⟩
                · clear hz
                  go_wp2_with fail
                  refine (SA2.out _).mono ?_
                  rintro e wz ⟨rfl, hz⟩
                  subst hz
                  go_wp2_with fail
                  refine (SA4.out _).mono ?_
                  rintro e wz ⟨rfl, hz⟩
                  subst hz
                  go_wp2
                  exact bodyPost_ret (v := .tuple #[.bool false, .string (bs qa), .string (bs qb), .bool (isD qb)]) (by simp [results, Tryd.results5, go_sem] <;> rfl) rfl ⟨by rw [HR2.out], hW⟩
              · rw [decide_eq_true (show j = q.length by omega)] at HQ1
                have HR2 : Hid (R = .tuple #[.bool false, .string (bs qa), .string (bs []), .bool true]) := HQ1.symm
                have gn : ((j : Int) == (q.length : Int)) = true := by simp; omega
                clear HQ1 SA3 hz2 hgo
                by_cases k1 : (1 : Int) < (j : Int)
                · have k2 : ¬ (gb qa 0 : Int) = 48 := by omega
                  clear hz
                  go_wp2_with fail
                  refine (SA2.out _).mono ?_
                  rintro e wz ⟨rfl, hz⟩
                  subst hz
                  go_wp2
                  exact bodyPost_ret (v := .tuple #[.bool false, .string (bs qa), .string (bs []), .bool true]) (by simp [results, Tryd.results5, go_sem] <;> rfl) rfl ⟨by rw [HR2.out], hW⟩
                · clear hz
                  go_wp2_with fail
                  refine (SA2.out _).mono ?_
                  rintro e wz ⟨rfl, hz⟩
                  subst hz
                  go_wp2
                  exact bodyPost_ret (v := .tuple #[.bool false, .string (bs qa), .string (bs []), .bool true]) (by simp [results, Tryd.results5, go_sem] <;> rfl) rfl ⟨by rw [HR2.out], hW⟩
  · have HB : pB l = false := by unfold pB; simp; omega
    have HS : pS l = l := by unfold pS; rw [HB]; rfl
    obtain ⟨q, hq⟩ : ∃ q, l = q := ⟨_, rfl⟩
    have HQ : Hid ((if (isD (q.take (pos q)) && !(decide (1 < (q.take (pos q)).length) && decide (gb (q.take (pos q)) 0 = 48))) = true then .tuple #[.bool false, .string (bs (q.take (pos q))), .string (bs (if decide (pos q = q.length) = true then [] else q.drop (pos q + 1))), .bool (decide (pos q = q.length) || isD (q.drop (pos q + 1)))] else .tuple #[.bool false, .string (bs []), .string (bs []), .bool false]) = R) := by
      have h := HR.out
      unfold pO pW pA pE at h
      rw [HS, HB, hq] at h
      exact h
    clear HR HB HS
    have hql : q.length ≤ 9223372036854775807 := by rw [← hq]; omega
    obtain rfl := hq.symm
    go_enter Tryd.func5, Tryd.ntmps5
    have hq0 : q = [] := by cases q with | nil => rfl | cons b t => simp at h0
    subst hq0
    have HR2 : Hid (R = .tuple #[.bool false, .string (bs []), .string (bs []), .bool false]) := HQ.out.symm
    have SA2 : Hid (∀ W : World, Calls Tryd.prog 8 #[.string (bs [])] W fun e w' => e = .returned (.bool false) ∧ w' = W) := fun W => sall_any [] (by simp) W
    clear HQ
    have zq : (bs []).size = 0 := rfl
    have hto := bs_to [] 0
    go_wp2
    go_loopw [7] (fun s7 wr => s7 = .int .i64 0 ∧ Below w.heap.size w wr) (fun s7 _ => 0)
    case atStart => exact ⟨rfl, Below.refl _ _⟩
    case round =>
      obtain ⟨rfl, hW⟩ := hrel
      go_wp2_with fail
      refine (SA2.out _).mono ?_
      rintro e wz ⟨rfl, hz⟩
      subst hz
      go_wp2
      exact bodyPost_ret (v := .tuple #[.bool false, .string (bs []), .string (bs []), .bool false]) (by simp [results, Tryd.results5, go_sem] <;> rfl) rfl ⟨by rw [HR2.out], hW⟩
end Go.Proofs.YtekdpeiemfppiabDoor
