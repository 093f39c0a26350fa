/-
  The contract of regattaref03's Int.
-/
import Derived.Test.YtekdpeiemfppiaaDoorDWalkC
import Derived.Test.YtekdpeiemfppiaaDoorSWalkC
set_option linter.unusedVariables false
set_option linter.unusedSimpArgs false
namespace Go.Proofs.YtekdpeiemfppiaaDoor
open Go.RowKit

/-- The number that digits make. -/
def num (l : List UInt8) : Nat := l.foldl (fun n b => 10 * n + (b.toNat - 48)) 0
theorem num_take (l : List UInt8) (j : Nat) (hj : j < l.length) : num (l.take (j + 1)) = 10 * num (l.take j) + (gb l j - 48) := by
  unfold num
  rw [List.take_add_one, List.foldl_append]
  have : l[j]? = some l[j] := List.getElem?_eq_getElem hj
  rw [this]
  have e : gb l j = (l[j]'hj).toNat := by unfold gb; simp [List.getD, hj]
  rw [e]
  rfl
theorem num_mono (l : List UInt8) (j k : Nat) (hjk : j ≤ k) (hk : k ≤ l.length) : num (l.take j) ≤ num (l.take k) := by
  induction k with
  | zero =>
    obtain rfl : j = 0 := by omega
    exact Nat.le_refl _
  | succ k ih =>
    rcases Nat.lt_or_ge j (k + 1) with h | h
    · have h1 := ih (by omega) (by omega)
      have h2 := num_take l k (by omega)
      omega
    · obtain rfl : j = k + 1 := by omega
      exact Nat.le_refl _
theorem num_step (l : List UInt8) (j : Nat) (hj : j < l.length) : 10 * num (l.take j) ≤ num l := by
  have h1 := num_take l j hj
  have h2 := num_mono l (j + 1) l.length (by omega) (Nat.le_refl _)
  rw [List.take_length] at h2
  omega
theorem isD_at (l : List UInt8) (h : isD l = true) (j : Nat) (hj : j < l.length) : 48 ≤ gb l j ∧ gb l j ≤ 57 := by
  unfold isD at h
  rw [Bool.and_eq_true] at h
  have := (all_gb l).1 h.1 j hj
  unfold isd at this
  simp at this
  exact this
theorem isD_ne (l : List UInt8) (h : isD l = true) : l ≠ [] := by
  intro h0
  subst h0
  exact absurd h (by decide)
theorem bs_toList (l : List UInt8) : (bs l).toList = l := ByteArray.toList_mk l
theorem sone_n (x : Int) (x0 : 0 ≤ x) (x1 : x ≤ 18446744073709551615) (w : World) : Calls Tryd.prog 36 #[.int .u64 x, .int .i64 0] w fun e w' => e = .returned (.agg #[.int .u64 (dg (x) 0), .int .u64 (dg (x) 1), .int .u64 (dg (x) 2), .int .u64 (dg (x) 3), .int .u64 (dg (x) 4), .int .u64 (dg (x) 5)]) ∧ Below w.heap.size w w' := by
  have h := sone_any x 0 (by omega) x0 x1 w
  rw [Nat.mul_zero, Int.pow_zero, Int.mul_one] at h
  exact h
theorem sclamp_n (m : Int) (bel : Bool) (T : Int) (h : (if bel = true then -m else m) = T) (m0 : 0 ≤ m) (m1 : m ≤ 18446744073709551615) (w : World) :
    Calls Tryd.prog 35 #[.agg #[.int .u64 (dg (m) 0), .int .u64 (dg (m) 1), .int .u64 (dg (m) 2), .int .u64 (dg (m) 3), .int .u64 (dg (m) 4), .int .u64 (dg (m) 5)], .bool bel] w fun e w' => e = .returned (.tuple #[.int .i64 (clv T), .bool (ovv T)]) ∧ Below w.heap.size w w' := by
  rw [← h]
  exact sclamp_any m bel m0 (by omega) w

/-- Is it a whole number's text? -/
def iOk (l : List UInt8) : Bool := pO l && pW l && !decide (l = [45, 48])
/-- The whole number. -/
def iV (l : List UInt8) : Int := if pB l = true then -(num (pA l) : Int) else (num (pA l) : Int)
def iX (l : List UInt8) : Int := if iOk l = true then (if ovv (iV l) = true then 0 else iV l) else 0
def iE (l : List UInt8) : Int := if iOk l = true then (if ovv (iV l) = true then 3 else 0) else 30

set_option maxHeartbeats 2000000 in
theorem sint_any (l : List UInt8) (hl : l.length ≤ 1000) (w : World) :
    Calls Tryd.prog 15 #[.string (bs l)] w fun e w' => e = .returned (.tuple #[.int .i64 (iX l), .int .i64 (iE l)]) ∧ Below w.heap.size w w' := by
  have PT := sparts_any l (by omega)
  have e0 : (ByteArray.mk #[]).toList = [] := ByteArray.toList_mk []
  have e1 : (ByteArray.mk #[45, 48]).toList = [45, 48] := ByteArray.toList_mk [45, 48]
  have e2 := bs_toList l
  obtain ⟨X, hX⟩ : ∃ X, iX l = X := ⟨_, rfl⟩
  obtain ⟨E, hE⟩ : ∃ E, iE l = E := ⟨_, rfl⟩
  rw [hX, hE]
  have HX : Hid (iX l = X) := hX
  have HE : Hid (iE l = E) := hE
  clear hX hE
  cases hO : pO l
  · have HX2 : Hid (X = 0) := by show _ = _; rw [← HX.out]; unfold iX iOk; rw [hO]; rfl
    have HE2 : Hid (E = 30) := by show _ = _; rw [← HE.out]; unfold iE iOk; rw [hO]; rfl
    rw [hO] at PT
    have P : Hid (∀ W : World, Calls Tryd.prog 18 #[.string (bs l)] W fun e w' => e = .returned (.tuple #[.bool false, .string (bs []), .string (bs []), .bool false]) ∧ Below W.heap.size W w') := PT
    clear PT HX HE hO
    go_enter Tryd.func15, Tryd.ntmps15
    go_wp2_with fail
    refine (P.out _).mono ?_
    rintro e w1 ⟨rfl, W1⟩
    clear P
    go_wp2
    go_ret2
    exact ⟨by rw [HX2.out, HE2.out]; rfl, W1⟩
  · cases hW : pW l
    · have HX2 : Hid (X = 0) := by show _ = _; rw [← HX.out]; unfold iX iOk; rw [hO, hW]; rfl
      have HE2 : Hid (E = 30) := by show _ = _; rw [← HE.out]; unfold iE iOk; rw [hO, hW]; rfl
      rw [hO, hW] at PT
      cases hD : isD (pE l)
      · rw [hD] at PT
        have P : Hid (∀ W : World, Calls Tryd.prog 18 #[.string (bs l)] W fun e w' => e = .returned (.tuple #[.bool (pB l), .string (bs (pA l)), .string (bs (pE l)), .bool false]) ∧ Below W.heap.size W w') := PT
        clear PT HX HE hO hW hD
        go_enter Tryd.func15, Tryd.ntmps15
        go_wp2_with fail
        refine (P.out _).mono ?_
        rintro e w1 ⟨rfl, W1⟩
        clear P
        go_wp2
        go_ret2
        exact ⟨by rw [HX2.out, HE2.out]; rfl, W1⟩
      · rw [hD] at PT
        have P : Hid (∀ W : World, Calls Tryd.prog 18 #[.string (bs l)] W fun e w' => e = .returned (.tuple #[.bool (pB l), .string (bs (pA l)), .string (bs (pE l)), .bool true]) ∧ Below W.heap.size W w') := PT
        have hne := isD_ne _ hD
        have e3 := bs_toList (pE l)
        generalize pE l = q at *
        have e4 : (q == []) = false := by simpa using hne
        clear PT HX HE hO hW hD
        go_enter Tryd.func15, Tryd.ntmps15
        go_wp2_with fail
        refine (P.out _).mono ?_
        rintro e w1 ⟨rfl, W1⟩
        clear P
        go_wp2
        go_ret2
        exact ⟨by rw [HX2.out, HE2.out]; rfl, W1⟩
    · rw [hO, hW] at PT
      have P : Hid (∀ W : World, Calls Tryd.prog 18 #[.string (bs l)] W fun e w' => e = .returned (.tuple #[.bool (pB l), .string (bs (pA l)), .string (bs []), .bool true]) ∧ Below W.heap.size W w') := PT
      have e3 := bs_toList []
      have e5 : (([] : List UInt8) == []) = true := rfl
      clear PT
      by_cases h48 : l = [45, 48]
      · have HX2 : Hid (X = 0) := by show _ = _; rw [← HX.out]; unfold iX iOk; rw [decide_eq_true h48, hO, hW]; rfl
        have HE2 : Hid (E = 30) := by show _ = _; rw [← HE.out]; unfold iE iOk; rw [decide_eq_true h48, hO, hW]; rfl
        have e6 : (l == [45, 48]) = true := by simpa using h48
        clear HX HE hO hW h48
        go_enter Tryd.func15, Tryd.ntmps15
        go_wp2_with fail
        refine (P.out _).mono ?_
        rintro e w1 ⟨rfl, W1⟩
        clear P
        go_wp2
        go_ret2
        exact ⟨by rw [HX2.out, HE2.out]; rfl, W1⟩
      · have HO : iOk l = true := by unfold iOk; rw [decide_eq_false h48, hO, hW]; rfl
        have HX2 : Hid (X = if ovv (iV l) = true then 0 else iV l) := by show _ = _; rw [← HX.out]; unfold iX; rw [if_pos HO]
        have HE2 : Hid (E = if ovv (iV l) = true then 3 else 0) := by show _ = _; rw [← HE.out]; unfold iE; rw [if_pos HO]
        have e6 : (l == [45, 48]) = false := by simpa using h48
        have hDA : isD (pA l) = true := by
          unfold pO at hO
          rw [Bool.and_eq_true] at hO
          exact hO.1
        have hla : (pA l).length ≤ 1000 := by unfold pA pS; rw [List.length_take]; split <;> (try rw [List.length_drop]) <;> omega
        have HV : Hid ((if pB l = true then -(num (pA l) : Int) else (num (pA l) : Int)) = iV l) := rfl
        clear HX HE hO hW h48 HO
        generalize iV l = V at *
        generalize pB l = bel at *
        generalize pA l = a at *
        have HDA : Hid (isD a = true) := hDA
        clear hDA
        have za := bs_size a
        go_enter Tryd.func15, Tryd.ntmps15
        go_wp2_with fail
        refine (P.out _).mono ?_
        rintro e w1 ⟨rfl, W1⟩
        clear P
        go_wp2
        go_loopw [8, 9] (fun s8 s9 wr => ∃ j : Nat, j ≤ a.length ∧ s9 = .int .i64 (j : Int) ∧ s8 = .int .u64 ((num (a.take j) : Nat) : Int) ∧ num (a.take j) ≤ 9223372036854775809 ∧ Below w.heap.size w wr) (fun _ s9 _ => a.length - (intOf s9).toNat)
        case atStart => exact ⟨0, by omega, rfl, rfl, by show 0 ≤ _; omega, W1⟩
        case round =>
          clear W1
          obtain ⟨j, hj, rfl, rfl, hnb, hW⟩ := hrel
          have hj0 : (0 : Int) ≤ (j : Int) := by omega
          by_cases hlt : (j : Int) < (a.length : Int)
          · by_cases hbig : 922337203685477580 < ((num (a.take j) : Nat) : Int)
            · have hge := num_step a j (by omega)
              have HO : ovv V = true := by
                have h := HV.out
                have hb : 9223372036854775808 < (num a : Int) := by omega
                rw [← h]
                unfold ovv
                cases bel
                · simp; omega
                · simp; omega
              have HX3 : Hid (X = 0) := by show _ = _; rw [HX2.out, if_pos HO]
              have HE3 : Hid (E = 3) := by show _ = _; rw [HE2.out, if_pos HO]
              clear HX2 HE2 HV HO HDA hge
              generalize num (a.take j) = n at *
              go_wp2
              go_ret2
              exact ⟨by rw [HX3.out, HE3.out]; rfl, hW⟩
            · have hix : ∀ h, ((bs a)[j]'h).toNat = gb a j := fun h => gb_at a j h
              obtain ⟨g0, g1⟩ := isD_at a HDA.out j (by omega)
              have HN : Hid (num (a.take (j + 1)) = 10 * num (a.take j) + (gb a j - 48)) := num_take a j (by omega)
              generalize num (a.take j) = n at *
              generalize gb a j = g at *
              have v1 := wrap_small (10 * (n : Int)) (by omega) (by omega)
              have v2 := wrap_small ((g : Int) - 48) (by omega) (by omega)
              have v3 := wrap_small (10 * (n : Int) + ((g : Int) - 48)) (by omega) (by omega)
              have v4 := wrap_byte ((g : Int) - 48) (by omega) (by omega)
              have HN2 : Hid (10 * (n : Int) + ((g : Int) - 48) = ((num (a.take (j + 1)) : Nat) : Int)) := by show _ = _; rw [HN.out]; omega
              have HN3 : Hid (num (a.take (j + 1)) ≤ 9223372036854775809) := by show _ ≤ _; rw [HN.out]; omega
              clear HX2 HE2 HV HN
              go_wp2
              go_roundw
              case rel => exact ⟨j + 1, by omega, by rw [show ((j + 1 : Nat) : Int) = (j : Int) + 1 by omega], by rw [HN2.out], HN3.out, hW⟩
              case measure => simp [intOf]; omega
          · obtain rfl : j = a.length := by omega
            rw [List.take_length] at *
            generalize num a = n at *
            have SO : Hid (∀ W : World, Calls Tryd.prog 36 #[.int .u64 (n : Int), .int .i64 0] W fun e w' => e = .returned (.agg #[.int .u64 (dg (n) 0), .int .u64 (dg (n) 1), .int .u64 (dg (n) 2), .int .u64 (dg (n) 3), .int .u64 (dg (n) 4), .int .u64 (dg (n) 5)]) ∧ Below W.heap.size W w') := fun W => sone_n (n : Int) (by omega) (by omega) W
            have SC : ∀ W : World, Calls Tryd.prog 35 #[.agg #[.int .u64 (dg (n) 0), .int .u64 (dg (n) 1), .int .u64 (dg (n) 2), .int .u64 (dg (n) 3), .int .u64 (dg (n) 4), .int .u64 (dg (n) 5)], .bool bel] W fun e w' => e = .returned (.tuple #[.int .i64 (clv V), .bool (ovv V)]) ∧ Below W.heap.size W w' := fun W => sclamp_n (n : Int) bel V HV.out (by omega) (by omega) W
            clear HV HDA
            cases hov : ovv V
            · have hcl : clv V = V := by
                unfold ovv at hov
                simp at hov
                exact (clv_in V hov.1 hov.2).1
              rw [hov, hcl] at SC
              have SC2 : Hid (∀ W : World, Calls Tryd.prog 35 #[.agg #[.int .u64 (dg (n) 0), .int .u64 (dg (n) 1), .int .u64 (dg (n) 2), .int .u64 (dg (n) 3), .int .u64 (dg (n) 4), .int .u64 (dg (n) 5)], .bool bel] W fun e w' => e = .returned (.tuple #[.int .i64 V, .bool false]) ∧ Below W.heap.size W w') := SC
              rw [hov] at HX2 HE2
              have HX3 : Hid (X = V) := HX2.out
              have HE3 : Hid (E = 0) := HE2.out
              clear SC HX2 HE2 hov hcl
              go_wp2_with fail
              refine (SO.out _).mono ?_
              rintro e w2 ⟨rfl, hb⟩
              have W2 := bchain hW hb
              clear hb hW SO
              go_wp2_with fail
              refine (SC2.out _).mono ?_
              rintro e w3 ⟨rfl, hb⟩
              have W3 := bchain W2 hb
              clear hb W2 SC2
              go_wp2
              go_ret2
              exact ⟨by rw [HX3.out, HE3.out]; rfl, W3⟩
            · rw [hov] at SC
              have SC2 : Hid (∀ W : World, Calls Tryd.prog 35 #[.agg #[.int .u64 (dg (n) 0), .int .u64 (dg (n) 1), .int .u64 (dg (n) 2), .int .u64 (dg (n) 3), .int .u64 (dg (n) 4), .int .u64 (dg (n) 5)], .bool bel] W fun e w' => e = .returned (.tuple #[.int .i64 (clv V), .bool true]) ∧ Below W.heap.size W w') := SC
              rw [hov] at HX2 HE2
              have HX3 : Hid (X = 0) := HX2.out
              have HE3 : Hid (E = 3) := HE2.out
              clear SC HX2 HE2 hov
              go_wp2_with fail
              refine (SO.out _).mono ?_
              rintro e w2 ⟨rfl, hb⟩
              have W2 := bchain hW hb
              clear hb hW SO
              go_wp2_with fail
              refine (SC2.out _).mono ?_
              rintro e w3 ⟨rfl, hb⟩
              have W3 := bchain W2 hb
              clear hb W2 SC2
              go_wp2
              go_ret2
              exact ⟨by rw [HX3.out, HE3.out]; rfl, W3⟩
end Go.Proofs.YtekdpeiemfppiaaDoor
