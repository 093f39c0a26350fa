/-
  Contracts of regattaref01's Below and Cmp.
-/
import Derived.Test.YtpmidldnomleoaaDoorRWalkD
set_option linter.unusedVariables false
set_option linter.unusedSimpArgs false
namespace Go.Proofs.YtpmidldnomleoaaDoor
open Go.RowKit

/-- A number that m bits hold, the highest its sign. -/
def InR (m : Nat) (a : Int) : Prop := -(2 ^ (m - 1)) ≤ a ∧ a < 2 ^ (m - 1)
theorem top_bit (m : Nat) (a : Int) (h : InR m a) : a / 2 ^ (m - 1) % 2 = if a < 0 then 1 else 0 := by
  have hp := pow_pos' (m - 1)
  obtain ⟨h0, h1⟩ := h
  by_cases hn : a < 0
  · rw [if_pos hn, Int.ediv_eq_neg_one_of_neg_of_le (by omega) (by omega)]; rfl
  · rw [if_neg hn, Int.ediv_eq_zero_of_lt (by omega) h1]; rfl
theorem over_top (m : Nat) (a : Int) (m0 : 1 ≤ m) (h : InR m a) : a / 2 ^ m = if a < 0 then -1 else 0 := by
  have hp := pow_pos' (m - 1)
  have e : (2 : Int) ^ m = 2 ^ (m - 1) + 2 ^ (m - 1) := by rw [← pow_two, show m - 1 + 1 = m by omega]
  obtain ⟨h0, h1⟩ := h
  by_cases hn : a < 0
  · rw [if_pos hn, Int.ediv_eq_neg_one_of_neg_of_le (by omega) (by omega)]
  · rw [if_neg hn, Int.ediv_eq_zero_of_lt (by omega) (by omega)]

theorem same_up (a b : Int) (s : Nat) (h : a / 2 ^ (s + 1) = b / 2 ^ (s + 1)) (hb : a / 2 ^ s % 2 = b / 2 ^ s % 2) : a / 2 ^ s = b / 2 ^ s := by
  rw [half_at, half_at] at h
  omega
theorem below_up (a b : Int) (s : Nat) (h : a / 2 ^ (s + 1) = b / 2 ^ (s + 1)) (ha : a / 2 ^ s % 2 = 0) (hb : b / 2 ^ s % 2 = 1) : a < b := by
  rw [half_at, half_at] at h
  have hp := pow_pos' s
  rcases Int.lt_or_le a b with h2 | h2
  · exact h2
  · have := Int.ediv_le_ediv (show (0 : Int) < 2 ^ s by omega) h2
    omega

set_option maxHeartbeats 400000 in
theorem rbelow_any (va : Value) (m : Nat) (a : Int) (m0 : 1 ≤ m) (hm : m ≤ 1000) (hr : InR m a) (w : World) (hA : Bt w va m a) :
    Calls Tryd.prog 28 #[va] w fun e w' => e = .returned (.bool (decide (a < 0))) ∧ w' = w := by
  obtain ⟨g1, cap1, rfl, p1, p2, ha⟩ := hA
  unfold maxLen at p2
  have hc := ha (m - 1) (by omega)
  rw [top_bit m a hr] at hc
  clear ha
  have i1 : ((m : Int) - 1).toNat = m - 1 := by omega
  have i2 : (0 : Int) ≤ (m : Int) - 1 := by omega
  have i3 : (m : Int) - 1 < (m : Int) := by omega
  by_cases hn : a < 0
  · rw [if_pos hn] at hc
    rw [decide_eq_true hn]
    clear hn
    go_enter Tryd.func28, Tryd.ntmps28
    go_wp2
    go_ret
    exact ⟨rfl, rfl⟩
  · rw [if_neg hn] at hc
    rw [decide_eq_false hn]
    clear hn
    go_enter Tryd.func28, Tryd.ntmps28
    go_wp2
    go_ret
    exact ⟨rfl, rfl⟩

set_option maxHeartbeats 1000000 in
theorem rcmp_any (va vb : Value) (m : Nat) (a b : Int) (m0 : 1 ≤ m) (hm : m ≤ 1000) (ra : InR m a) (rb : InR m b) (w : World) (hA : Bt w va m a) (hB : Bt w vb m b) :
    Calls Tryd.prog 26 #[va, vb] w fun e w' => e = .returned (.int .i64 (c3 a b)) ∧ Below w.heap.size w w' := by
  have BA := fun W h => rbelow_any va m a m0 hm ra W h
  have BB := fun W h => rbelow_any vb m b m0 hm rb W h
  have ta := over_top m a m0 ra
  have tb := over_top m b m0 rb
  by_cases hs : (decide (a < 0) == decide (b < 0)) = true
  · -- one sign: bit by bit
    have hq : a / 2 ^ m = b / 2 ^ m := by
      rw [ta, tb]
      by_cases h1 : a < 0 <;> by_cases h2 : b < 0 <;> simp [h1, h2] at hs ⊢
    have HQ : Hid (a / 2 ^ (m - 1 + 1) = b / 2 ^ (m - 1 + 1)) := by show _ = _; rw [show m - 1 + 1 = m by omega]; exact hq
    have BA' : Hid (∀ W : World, Bt W va m a → Calls Tryd.prog 28 #[va] W fun e w' => e = .returned (.bool (decide (a < 0))) ∧ w' = W) := BA
    have BB' : Hid (∀ W : World, Bt W vb m b → Calls Tryd.prog 28 #[vb] W fun e w' => e = .returned (.bool (decide (b < 0))) ∧ w' = W) := BB
    clear ta tb hq BA BB
    obtain ⟨g1, cap1, rfl, p1, p2, ha⟩ := id hA
    obtain ⟨g2, cap2, rfl, p3, p4, hb⟩ := id hB
    unfold maxLen at p2 p4
    have HA : Hid (∀ k, k < m → w.cell? ⟨g1, k, none⟩ = some (.int .i64 (a / 2 ^ k % 2))) := ha
    have HB : Hid (∀ k, k < m → w.cell? ⟨g2, k, none⟩ = some (.int .i64 (b / 2 ^ k % 2))) := hb
    clear ha hb
    go_enter Tryd.func26, Tryd.ntmps26
    go_wp2_with fail
    refine (BA'.out _ hA).mono ?_
    rintro e w1 ⟨rfl, hw⟩
    subst hw
    go_wp2_with fail
    refine (BB'.out _ hB).mono ?_
    rintro e w1 ⟨rfl, hw⟩
    subst hw
    clear BA' BB' hA hB
    go_wp2_with fail
    clear hs ra rb
    go_loopw [5] (fun k wr => ((∃ s : Nat, s < m ∧ k = .int .i64 (s : Int) ∧ Hid (a / 2 ^ (s + 1) = b / 2 ^ (s + 1))) ∨ (k = .int .i64 (-1) ∧ Hid (a = b))) ∧ Below w1.heap.size w1 wr) (fun k _ => (intOf k + 1).toNat)
    case atStart => exact ⟨.inl ⟨m - 1, by omega, by rw [show ((m - 1 : Nat) : Int) = (m : Int) - 1 by omega], HQ⟩, Below.refl _ _⟩
    case round =>
      clear HQ
      obtain ⟨hrel, hW⟩ := hrel
      rcases hrel with ⟨s, hs, rfl, HQ⟩ | ⟨rfl, HE⟩
      · have ha := (hW.cell (World.block_lt_of_cell? _ _ (HA.out s hs))).trans (HA.out s hs)
        have hb := (hW.cell (World.block_lt_of_cell? _ _ (HB.out s hs))).trans (HB.out s hs)
        have h0I : (0 : Int) ≤ (s : Int) := by omega
        have hltI : (s : Int) < (m : Int) := by omega
        rcases bit_01 (a / 2 ^ s) with hx | hx
        · rcases bit_01 (b / 2 ^ s) with hy | hy
          · rw [hx] at ha
            rw [hy] at hb
            have HS : Hid (a / 2 ^ s = b / 2 ^ s) := same_up a b s HQ.out (by rw [hx, hy])
            go_wp2_with fail
            go_quiet (fail)
            have hb0 : Below wr.heap.size wr (wr.drewN nq) := below_drewN (Below.refl _ _) nq
            have hWq := bchain hW hb0
            clear hb0 hW ha hb
            generalize wr.drewN nq = wq at *
            go_wp2
            go_roundw
            case rel =>
              refine ⟨?_, hWq⟩
              by_cases hs0 : s = 0
              · subst hs0
                refine .inr ⟨rfl, ?_⟩
                show a = b
                have := HS.out
                rw [Int.pow_zero, Int.ediv_one, Int.ediv_one] at this
                exact this
              · refine .inl ⟨s - 1, by omega, ?_, ?_⟩
                · rw [show ((s - 1 : Nat) : Int) = (s : Int) - 1 by omega]
                · show a / 2 ^ (s - 1 + 1) = b / 2 ^ (s - 1 + 1)
                  rw [show s - 1 + 1 = s by omega]
                  exact HS.out
            case measure => first | (simp [intOf]; done) | (simp [intOf]; omega)
          · rw [hx] at ha
            rw [hy] at hb
            have HE : Hid (c3 a b = -1) := c3_lt a b (below_up a b s HQ.out hx hy)
            clear hx hy HQ
            go_wp2_with fail
            go_quiet (fail)
            have hb0 : Below wr.heap.size wr (wr.drewN nq) := below_drewN (Below.refl _ _) nq
            have hWq := bchain hW hb0
            have ha2 : (wr.drewN nq).cell? ⟨g1, s, none⟩ = _ := ha
            have hb2 : (wr.drewN nq).cell? ⟨g2, s, none⟩ = _ := hb
            clear hb0 hW ha hb
            generalize wr.drewN nq = wq at *
            go_wp2_with fail
            go_quiet (fail)
            have hb0 : Below wq.heap.size wq (wq.drewN nq) := below_drewN (Below.refl _ _) nq
            have hWr := bchain hWq hb0
            clear hb0 hWq ha2 hb2
            generalize wq.drewN nq = wp at *
            go_wp2
            go_ret
            exact ⟨by rw [HE.out]; rfl, hWr⟩
        · rcases bit_01 (b / 2 ^ s) with hy | hy
          · rw [hx] at ha
            rw [hy] at hb
            have HE : Hid (c3 a b = 1) := c3_gt a b (below_up b a s HQ.out.symm hy hx)
            clear hx hy HQ
            go_wp2_with fail
            go_quiet (fail)
            have hb0 : Below wr.heap.size wr (wr.drewN nq) := below_drewN (Below.refl _ _) nq
            have hWq := bchain hW hb0
            have ha2 : (wr.drewN nq).cell? ⟨g1, s, none⟩ = _ := ha
            have hb2 : (wr.drewN nq).cell? ⟨g2, s, none⟩ = _ := hb
            clear hb0 hW ha hb
            generalize wr.drewN nq = wq at *
            go_wp2_with fail
            go_quiet (fail)
            have hb0 : Below wq.heap.size wq (wq.drewN nq) := below_drewN (Below.refl _ _) nq
            have hWr := bchain hWq hb0
            clear hb0 hWq ha2 hb2
            generalize wq.drewN nq = wp at *
            go_wp2
            go_ret
            exact ⟨by rw [HE.out]; rfl, hWr⟩
          · rw [hx] at ha
            rw [hy] at hb
            have HS : Hid (a / 2 ^ s = b / 2 ^ s) := same_up a b s HQ.out (by rw [hx, hy])
            go_wp2_with fail
            go_quiet (fail)
            have hb0 : Below wr.heap.size wr (wr.drewN nq) := below_drewN (Below.refl _ _) nq
            have hWq := bchain hW hb0
            clear hb0 hW ha hb
            generalize wr.drewN nq = wq at *
            go_wp2
            go_roundw
            case rel =>
              refine ⟨?_, hWq⟩
              by_cases hs0 : s = 0
              · subst hs0
                refine .inr ⟨rfl, ?_⟩
                show a = b
                have := HS.out
                rw [Int.pow_zero, Int.ediv_one, Int.ediv_one] at this
                exact this
              · refine .inl ⟨s - 1, by omega, ?_, ?_⟩
                · rw [show ((s - 1 : Nat) : Int) = (s : Int) - 1 by omega]
                · show a / 2 ^ (s - 1 + 1) = b / 2 ^ (s - 1 + 1)
                  rw [show s - 1 + 1 = s by omega]
                  exact HS.out
            case measure => first | (simp [intOf]; done) | (simp [intOf]; omega)
      · have HC : Hid (c3 a b = 0) := by show c3 a b = 0; rw [HE.out]; exact c3_self b
        clear HE
        go_wp2
        go_ret
        exact ⟨by rw [HC.out]; rfl, hW⟩
  · have hs' : (decide (a < 0) == decide (b < 0)) = false := by simpa using hs
    clear ta tb
    by_cases h1 : a < 0
    · have h2 : ¬ b < 0 := by
        intro h2
        rw [decide_eq_true h1, decide_eq_true h2] at hs'
        cases hs'
      have HE : Hid (c3 a b = -1) := c3_lt a b (by omega)
      have BA' : Hid (∀ W : World, Bt W va m a → Calls Tryd.prog 28 #[va] W fun e w' => e = .returned (.bool true) ∧ w' = W) := fun W h => by have := BA W h; rw [decide_eq_true h1] at this; exact this
      have BB' : Hid (∀ W : World, Bt W vb m b → Calls Tryd.prog 28 #[vb] W fun e w' => e = .returned (.bool false) ∧ w' = W) := fun W h => by have := BB W h; rw [decide_eq_false h2] at this; exact this
      clear hs hs' h1 h2 BA BB ra rb
      go_enter Tryd.func26, Tryd.ntmps26
      go_wp2_with fail
      refine (BA'.out _ hA).mono ?_
      rintro e w1 ⟨rfl, hw⟩
      subst hw
      go_wp2_with fail
      refine (BB'.out _ hB).mono ?_
      rintro e w1 ⟨rfl, hw⟩
      subst hw
      go_wp2_with fail
      refine (BA'.out _ hA).mono ?_
      rintro e w1 ⟨rfl, hw⟩
      subst hw
      go_wp2
      go_ret
      exact ⟨by rw [HE.out]; rfl, Below.refl _ _⟩
    · have h2 : b < 0 := by
        rcases Int.lt_or_le b 0 with h2 | h2
        · exact h2
        · rw [decide_eq_false h1, decide_eq_false (show ¬ b < 0 by omega)] at hs'
          cases hs'
      have HE : Hid (c3 a b = 1) := c3_gt a b (by omega)
      have BA' : Hid (∀ W : World, Bt W va m a → Calls Tryd.prog 28 #[va] W fun e w' => e = .returned (.bool false) ∧ w' = W) := fun W h => by have := BA W h; rw [decide_eq_false h1] at this; exact this
      have BB' : Hid (∀ W : World, Bt W vb m b → Calls Tryd.prog 28 #[vb] W fun e w' => e = .returned (.bool true) ∧ w' = W) := fun W h => by have := BB W h; rw [decide_eq_true h2] at this; exact this
      clear hs hs' h1 h2 BA BB ra rb
      go_enter Tryd.func26, Tryd.ntmps26
      go_wp2_with fail
      refine (BA'.out _ hA).mono ?_
      rintro e w1 ⟨rfl, hw⟩
      subst hw
      go_wp2_with fail
      refine (BB'.out _ hB).mono ?_
      rintro e w1 ⟨rfl, hw⟩
      subst hw
      go_wp2_with fail
      refine (BA'.out _ hA).mono ?_
      rintro e w1 ⟨rfl, hw⟩
      subst hw
      go_wp2
      go_ret
      exact ⟨by rw [HE.out]; rfl, Below.refl _ _⟩
end Go.Proofs.YtpmidldnomleoaaDoor
