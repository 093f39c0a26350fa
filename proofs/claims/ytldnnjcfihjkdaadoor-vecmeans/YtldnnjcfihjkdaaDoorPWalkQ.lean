/-
  The contracts of vec's alike and of what it calls.
-/
import Derived.Test.YtldnnjcfihjkdaaDoorPWalkA
import Derived.Test.YtldnnjcfihjkdaaDoorPWalkB
import Derived.Test.YtldnnjcfihjkdaaDoorPWalkD
set_option linter.unusedVariables false
set_option linter.unusedSimpArgs false
namespace Go.Proofs.YtldnnjcfihjkdaaDoor
open Go.RowKit

set_option maxHeartbeats 1000000 in
theorem alike1_any (a : Option Addr) (n c n0 : Nat) (hn : n ≤ maxLen) (hn0 : n0 ≤ maxLen) (B g o K cap c0 : Nat) (a0 : Option Addr) (hK : 0 < K) (w : World) (cb : w.cell? ⟨B, 0, none⟩ = some (.slice (some ⟨g, o, none⟩) K cap)) (ce : w.cell? ⟨g, o, none⟩ = some (.slice a0 n0 c0)) :
    Calls Tryd.prog 127 #[.slice a n c, .pointer (some ⟨B, 0, none⟩)] w fun e w' => e = .returned (.bool (decide (n ≠ n0))) ∧ w' = w := by
  unfold maxLen at hn hn0
  have hKI : (0 : Int) < (K : Int) := by omega
  by_cases h : n = n0
  · subst h
    rw [decide_eq_false (fun h => h rfl)]
    go_enter Tryd.func127, Tryd.ntmps127
    go_wp2
    go_ret
    exact ⟨by simp, rfl⟩
  · have h1 : ¬ (n : Int) = (n0 : Int) := by omega
    rw [decide_eq_true h]
    clear h
    go_enter Tryd.func127, Tryd.ntmps127
    go_wp2
    go_ret
    exact ⟨by simp [h1], rfl⟩
/-- Whether one of so many vectors is not as long as the first. -/
def unlB (ns : Nat → Nat) (m : Nat) : Bool := (List.range m).any (fun k => decide (ns k ≠ ns 0))
theorem unlB_yes (ns : Nat → Nat) (m k : Nat) (hk : k < m) (h : ns k ≠ ns 0) : unlB ns m = true :=
  List.any_eq_true.2 ⟨k, List.mem_range.2 hk, decide_eq_true h⟩
theorem unlB_no (ns : Nat → Nat) (m : Nat) (h : ∀ k, k < m → ns k = ns 0) : unlB ns m = false := by
  rw [Bool.eq_false_iff]
  intro e
  obtain ⟨k, hk, h2⟩ := List.any_eq_true.1 e
  exact of_decide_eq_true h2 (h k (List.mem_range.1 hk))
set_option maxRecDepth 100000 in
set_option maxHeartbeats 2000000 in
theorem index2_any (v : Value) (m : Nat) (ns : Nat → Nat) (B : Nat) (w : World) (hH : Hs w v m ns) (cB : w.cell? ⟨B, 0, none⟩ = some v) :
    Calls Tryd.prog 128 #[v, .func (.func 127) #[] #[.pointer (some ⟨B, 0, none⟩)]] w fun e w' => ∃ i : Int, e = .returned (.int .i64 i) ∧ (unlB ns m = true → 0 ≤ i) ∧ (unlB ns m = false → i < 0) ∧ w' = w := by
  obtain ⟨adr, cap, g, o, rfl, k1, k2, k3, k4⟩ := hH
  have HC : Hid (∀ k, k < m → ns k ≤ maxLen ∧ ∃ (ad : Option Addr) (ca : Nat), w.cell? ⟨g, o + k, none⟩ = some (.slice ad (ns k) ca)) := k4
  have HK : Hid (0 < m → adr = some ⟨g, o, none⟩) := k3
  have HB : Hid (w.cell? ⟨B, 0, none⟩ = some (.slice adr m cap)) := cB
  unfold maxLen at k2
  clear k3 k4 cB
  go_enter Tryd.func128, Tryd.ntmps128
  go_wp2
  go_loopw [8] (fun s8 wr => ∃ j : Nat, j ≤ m ∧ s8 = .int .i64 (j : Int) ∧ Hid (∀ k, k < j → ns k = ns 0) ∧ wr = w) (fun s8 _ => m - (intOf s8).toNat)
  case atStart => exact ⟨0, by omega, rfl, fun k hk => by omega, rfl⟩
  case round =>
    obtain ⟨j, hj, rfl, hA, rfl⟩ := hrel
    by_cases hlt : j < m
    · have hjI : (j : Int) < (m : Int) := by omega
      have ea := HK.out (by omega)
      subst ea
      obtain ⟨hl, ad, ca, hcell⟩ := HC.out j hlt
      have CT : Hid (Calls Tryd.prog 127 #[.slice ad (ns j) ca, .pointer (some ⟨B, 0, none⟩)] wr fun e w' => e = .returned (.bool (decide (ns j ≠ ns 0))) ∧ w' = wr) := by
        obtain ⟨hl0, ad0, ca0, hc0⟩ := HC.out 0 (by omega)
        exact alike1_any ad (ns j) ca (ns 0) hl hl0 B g o m cap ca0 ad0 (by omega) wr HB.out (by rw [Nat.add_zero] at hc0; exact hc0)
      clear hl
      by_cases hlong : ns j ≠ ns 0
      · rw [decide_eq_true hlong] at CT
        have HF : Hid (unlB ns m = true) := unlB_yes ns m j hlt hlong
        clear hlong hA
        go_wp2_with (go_at_call 127; refine CT.out.mono ?_; rintro e wz ⟨rfl, hz⟩; subst hz)
        go_ret
        exact ⟨_, rfl, fun _ => by omega, fun h => (by rw [HF.out] at h; cases h), rfl⟩
      · rw [decide_eq_false hlong] at CT
        have HA2 : Hid (∀ k, k < j + 1 → ns k = ns 0) := fun k hk => by
          rcases Nat.lt_or_ge k j with h | h
          · exact hA.out k h
          · obtain rfl : k = j := by omega
            exact Decidable.not_not.1 hlong
        clear hlong hA
        go_wp2_with (go_at_call 127; refine CT.out.mono ?_; rintro e wz ⟨rfl, hz⟩; subst hz)
        go_roundw
        case rel => exact ⟨j + 1, by omega, by go_num, HA2, trivial⟩
        case measure => simp [intOf]; omega
    · have HF : Hid (unlB ns m = false) := unlB_no ns m (fun k hk => hA.out k (by omega))
      have hjI : ¬ (j : Int) < (m : Int) := by omega
      clear hA
      go_wp2
      go_ret
      exact ⟨_, rfl, fun h => (by rw [HF.out] at h; cases h), fun _ => by omega, rfl⟩
set_option maxHeartbeats 1000000 in
theorem contains2_any (v : Value) (m : Nat) (ns : Nat → Nat) (B : Nat) (w : World) (hH : Hs w v m ns) (cB : w.cell? ⟨B, 0, none⟩ = some v) :
    Calls Tryd.prog 90 #[v, .func (.func 127) #[] #[.pointer (some ⟨B, 0, none⟩)]] w fun e w' => e = .returned (.bool (unlB ns m)) ∧ w' = w := by
  have CI : Hid (Calls Tryd.prog 128 #[v, .func (.func 127) #[] #[.pointer (some ⟨B, 0, none⟩)]] w fun e w' => ∃ i : Int, e = .returned (.int .i64 i) ∧ (unlB ns m = true → 0 ≤ i) ∧ (unlB ns m = false → i < 0) ∧ w' = w) := index2_any v m ns B w hH cB
  obtain ⟨adr, cap, g, o, rfl, -, -, -, -⟩ := hH
  clear cB
  generalize unlB ns m = Q at *
  cases Q
  · go_enter Tryd.func90, Tryd.ntmps90
    go_wp2_with fail
    refine CI.out.mono ?_
    rintro e wz ⟨i, rfl, -, h1, hz⟩
    subst hz
    have h2 : ¬ (0 : Int) ≤ i := by have := h1 (by trivial); omega
    clear CI h1
    go_wp2
    go_ret
    exact ⟨by simp [h2], rfl⟩
  · go_enter Tryd.func90, Tryd.ntmps90
    go_wp2_with fail
    refine CI.out.mono ?_
    rintro e wz ⟨i, rfl, h1, -, hz⟩
    subst hz
    have h2 : (0 : Int) ≤ i := h1 (by trivial)
    clear CI h1
    go_wp2
    go_ret
    exact ⟨by simp [h2], rfl⟩
theorem Hs.later {w w' : World} {v : Value} {m : Nat} {ns : Nat → Nat} (h : Hs w v m ns) (hb : Below w.heap.size w w') : Hs w' v m ns := by
  obtain ⟨adr, cap, g, o, e, k1, k2, k3, k4⟩ := h
  exact ⟨adr, cap, g, o, e, k1, k2, k3, fun k hk => by obtain ⟨h1, ad, ca, h2⟩ := k4 k hk; exact ⟨h1, ad, ca, cell_later hb h2⟩⟩
set_option maxHeartbeats 1000000 in
theorem alike_any (v : Value) (m : Nat) (ns : Nat → Nat) (w : World) (hH : Hs w v m ns) :
    Calls Tryd.prog 83 #[v] w fun e w' => e = .returned (.bool (!(unlB ns m))) ∧ Below w.heap.size w w' := by
  have hb0 := bel1 w (.cells #[v] 74)
  have cB : (w.alloc (.cells #[v] 74)).cell? ⟨w.heap.size, 0, none⟩ = some v := by obtain ⟨adr, cap, g, o, rfl, -, -, -, -⟩ := hH; simp [go_sem]
  have CI : Hid (Calls Tryd.prog 90 #[v, .func (.func 127) #[] #[.pointer (some ⟨w.heap.size, 0, none⟩)]] (w.alloc (.cells #[v] 74)) fun e w' => e = .returned (.bool (unlB ns m)) ∧ w' = w.alloc (.cells #[v] 74)) := contains2_any v m ns w.heap.size _ (hH.later hb0) cB
  obtain ⟨adr, cap, g, o, rfl, -, -, -, -⟩ := hH
  clear cB
  generalize unlB ns m = Q at *
  go_enter Tryd.func83, Tryd.ntmps83
  go_wp2_with fail
  refine CI.out.mono ?_
  rintro e wz ⟨rfl, hz⟩
  have hb1 : Below w.heap.size w wz := by rw [hz]; exact hb0
  clear CI hz hb0
  cases Q <;> (go_wp2; go_ret; exact ⟨rfl, hb1⟩)
end Go.Proofs.YtldnnjcfihjkdaaDoor
