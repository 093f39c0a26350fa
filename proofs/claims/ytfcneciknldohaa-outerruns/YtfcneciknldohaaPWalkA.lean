/-
  The contracts of vec's check and of what it calls.
-/
import Derived.Test.YtfcneciknldohaaBC
set_option linter.unusedVariables false
set_option linter.unusedSimpArgs false
namespace Go.Proofs.Ytfcneciknldohaa
open Go.RowKit

set_option maxHeartbeats 1000000 in
theorem tooLong_any (a : Option Addr) (n c : Nat) (hn : n ≤ maxLen) (w : World) :
    Calls Try.prog 62 #[.slice a n c] w fun e w' => e = .returned (.bool (decide (65536 < n))) ∧ w' = w := by
  unfold maxLen at hn
  by_cases h : 65536 < n
  · have h1 : (65536 : Int) < (n : Int) := by omega
    rw [decide_eq_true h]
    clear h
    go_enter Try.func62, Try.ntmps62
    go_wp2
    go_ret
    exact ⟨rfl, rfl⟩
  · have h1 : ¬ (65536 : Int) < (n : Int) := by omega
    rw [decide_eq_false h]
    clear h
    go_enter Try.func62, Try.ntmps62
    go_wp2
    go_ret
    exact ⟨rfl, rfl⟩
/-- Whether one of so many vectors is too long. -/
def longB (ns : Nat → Nat) (m : Nat) : Bool := (List.range m).any (fun k => decide (65536 < ns k))
theorem longB_yes (ns : Nat → Nat) (m k : Nat) (hk : k < m) (h : 65536 < ns k) : longB ns m = true :=
  List.any_eq_true.2 ⟨k, List.mem_range.2 hk, decide_eq_true h⟩
theorem longB_no (ns : Nat → Nat) (m : Nat) (h : ∀ k, k < m → ¬ 65536 < ns k) : longB ns m = false := by
  rw [Bool.eq_false_iff]
  intro e
  obtain ⟨k, hk, h2⟩ := List.any_eq_true.1 e
  exact h k (List.mem_range.1 hk) (of_decide_eq_true h2)
/-- A list of lists: where each is, and how long. -/
def Hs (w : World) (v : Value) (m : Nat) (ns : Nat → Nat) : Prop :=
  ∃ (adr : Option Addr) (cap g o : Nat), v = .slice adr m cap ∧ m ≤ cap ∧ cap ≤ maxLen ∧ (0 < m → adr = some ⟨g, o, none⟩) ∧ ∀ k, k < m → ns k ≤ maxLen ∧ ∃ (ad : Option Addr) (ca : Nat), w.cell? ⟨g, o + k, none⟩ = some (.slice ad (ns k) ca)
set_option maxRecDepth 100000 in
set_option maxHeartbeats 2000000 in
theorem index_any (v : Value) (m : Nat) (ns : Nat → Nat) (w : World) (hH : Hs w v m ns) :
    Calls Try.prog 71 #[v, .func (.func 62) #[] #[]] w fun e w' => ∃ i : Int, e = .returned (.int .i64 i) ∧ (longB ns m = true → 0 ≤ i) ∧ (longB ns m = false → i < 0) ∧ w' = w := by
  obtain ⟨adr, cap, g, o, rfl, k1, k2, k3, k4⟩ := hH
  unfold maxLen at k2
  have HC : Hid (∀ k, k < m → ns k ≤ maxLen ∧ ∃ (ad : Option Addr) (ca : Nat), w.cell? ⟨g, o + k, none⟩ = some (.slice ad (ns k) ca)) := k4
  have HK : Hid (0 < m → adr = some ⟨g, o, none⟩) := k3
  clear k3 k4
  go_enter Try.func71, Try.ntmps71
  go_wp2
  go_loopw [8] (fun s8 wr => ∃ j : Nat, j ≤ m ∧ s8 = .int .i64 (j : Int) ∧ Hid (∀ k, k < j → ¬ 65536 < ns k) ∧ wr = w) (fun s8 _ => m - (intOf s8).toNat)
  case atStart => exact ⟨0, by omega, rfl, fun k hk => by omega, rfl⟩
  case round =>
    obtain ⟨j, hj, rfl, hA, rfl⟩ := hrel
    by_cases hlt : j < m
    · have hjI : (j : Int) < (m : Int) := by omega
      have ea := HK.out (by omega)
      subst ea
      obtain ⟨hl, ad, ca, hcell⟩ := HC.out j hlt
      have CT : Hid (∀ W : World, Calls Try.prog 62 #[.slice ad (ns j) ca] W fun e w' => e = .returned (.bool (decide (65536 < ns j))) ∧ w' = W) := fun W => tooLong_any ad (ns j) ca hl W
      clear hl
      by_cases hlong : 65536 < ns j
      · rw [decide_eq_true hlong] at CT
        have HF : Hid (longB ns m = true) := longB_yes ns m j hlt hlong
        clear hlong hA
        go_wp2_with (go_at_call 62; refine (CT.out _).mono ?_; rintro e wz ⟨rfl, hz⟩; subst hz)
        go_ret
        exact ⟨_, rfl, fun _ => by omega, fun h => (by rw [HF.out] at h; cases h), rfl⟩
      · rw [decide_eq_false hlong] at CT
        have HA2 : Hid (∀ k, k < j + 1 → ¬ 65536 < ns k) := fun k hk => by
          rcases Nat.lt_or_ge k j with h | h
          · exact hA.out k h
          · obtain rfl : k = j := by omega
            exact hlong
        clear hlong hA
        go_wp2_with (go_at_call 62; refine (CT.out _).mono ?_; rintro e wz ⟨rfl, hz⟩; subst hz)
        go_roundw
        case rel => exact ⟨j + 1, by omega, by go_num, HA2, trivial⟩
        case measure => simp [intOf]; omega
    · have HF : Hid (longB ns m = false) := longB_no ns m (fun k hk => hA.out k (by omega))
      have hjI : ¬ (j : Int) < (m : Int) := by omega
      clear hA
      go_wp2
      go_ret
      exact ⟨_, rfl, fun h => (by rw [HF.out] at h; cases h), fun _ => by omega, rfl⟩
set_option maxHeartbeats 1000000 in
theorem contains_any (v : Value) (m : Nat) (ns : Nat → Nat) (w : World) (hH : Hs w v m ns) :
    Calls Try.prog 61 #[v, .func (.func 62) #[] #[]] w fun e w' => e = .returned (.bool (longB ns m)) ∧ w' = w := by
  have CI : Hid (Calls Try.prog 71 #[v, .func (.func 62) #[] #[]] w fun e w' => ∃ i : Int, e = .returned (.int .i64 i) ∧ (longB ns m = true → 0 ≤ i) ∧ (longB ns m = false → i < 0) ∧ w' = w) := index_any v m ns w hH
  obtain ⟨adr, cap, g, o, rfl, -, -, -, -⟩ := hH
  generalize longB ns m = B at *
  cases B
  · go_enter Try.func61, Try.ntmps61
    go_wp2_with fail
    refine CI.out.mono ?_
    rintro e wz ⟨i, rfl, -, h1, hz⟩
    subst hz
    have h2 : ¬ (0 : Int) ≤ i := by have := h1 (by trivial); omega
    clear CI h1
    go_wp2
    go_ret
    exact ⟨by simp [h2], rfl⟩
  · go_enter Try.func61, Try.ntmps61
    go_wp2_with fail
    refine CI.out.mono ?_
    rintro e wz ⟨i, rfl, h1, -, hz⟩
    subst hz
    have h2 : (0 : Int) ≤ i := h1 (by trivial)
    clear CI h1
    go_wp2
    go_ret
    exact ⟨by simp [h2], rfl⟩
/-- check's answer. -/
def ckE (b : Bool) (ns : Nat → Nat) (m : Nat) : Int := if longB ns m = true then 3 else if b = true then 0 else 40
set_option maxHeartbeats 1000000 in
theorem check_any (b : Bool) (v : Value) (m : Nat) (ns : Nat → Nat) (w : World) (hH : Hs w v m ns) :
    Calls Try.prog 47 #[.bool b, v] w fun e w' => e = .returned (.int .i64 (ckE b ns m)) ∧ w' = w := by
  have CI : Hid (Calls Try.prog 61 #[v, .func (.func 62) #[] #[]] w fun e w' => e = .returned (.bool (longB ns m)) ∧ w' = w) := contains_any v m ns w hH
  obtain ⟨adr, cap, g, o, rfl, -, -, -, -⟩ := hH
  unfold ckE
  generalize longB ns m = B at *
  cases B <;> cases b
  all_goals
    first
      | rw [if_pos rfl]
      | rw [if_neg (by decide), if_pos rfl]
      | rw [if_neg (by decide), if_neg (by decide)]
    go_enter Try.func47, Try.ntmps47
    go_wp2_with fail
    refine CI.out.mono ?_
    rintro e wz ⟨rfl, hz⟩
    subst hz
    clear CI
    go_wp2
    go_ret
    exact ⟨rfl, rfl⟩
theorem hs1 (w1 : World) (ada : Option Addr) (n ca : Nat) (k : n ≤ maxLen) : Hs (w1.alloc (.cells #[.slice ada n ca] 25)) (.slice (some ⟨w1.heap.size, 0, none⟩) 1 1) 1 (fun _ => n) := by
  refine ⟨some ⟨w1.heap.size, 0, none⟩, 1, w1.heap.size, 0, rfl, Nat.le_refl _, by unfold maxLen; omega, fun _ => rfl, fun k hk => ?_⟩
  obtain rfl : k = 0 := by omega
  exact ⟨k, ada, ca, by simp [go_sem]⟩
theorem hs2 (w1 : World) (ada adb : Option Addr) (n ca m cb : Nat) (k : n ≤ maxLen) (q : m ≤ maxLen) : Hs (w1.alloc (.cells #[.slice ada n ca, .slice adb m cb] 25)) (.slice (some ⟨w1.heap.size, 0, none⟩) 2 2) 2 (fun k => if k = 0 then n else m) := by
  refine ⟨some ⟨w1.heap.size, 0, none⟩, 2, w1.heap.size, 0, rfl, Nat.le_refl _, by unfold maxLen; omega, fun _ => rfl, fun k hk => ?_⟩
  rcases (show k = 0 ∨ k = 1 by omega) with rfl | rfl
  · exact ⟨k, ada, ca, by simp [go_sem]⟩
  · exact ⟨q, adb, cb, by simp [go_sem]⟩
theorem ckE1 (b : Bool) (n : Nat) : ckE b (fun _ => n) 1 = if 65536 < n then 3 else if b = true then 0 else 40 := by
  unfold ckE longB
  by_cases h : 65536 < n <;> simp [h, List.range_succ]
theorem ckE2 (b : Bool) (n m : Nat) : ckE b (fun k => if k = 0 then n else m) 2 = if 65536 < n ∨ 65536 < m then 3 else if b = true then 0 else 40 := by
  unfold ckE longB
  by_cases h : 65536 < n <;> by_cases h' : 65536 < m <;> simp [h, h', List.range_succ]
theorem check1_any (b : Bool) (w1 : World) (ada : Option Addr) (n ca : Nat) (k : n ≤ maxLen) :
    Calls Try.prog 47 #[.bool b, .slice (some ⟨w1.heap.size, 0, none⟩) 1 1] (w1.alloc (.cells #[.slice ada n ca] 25)) fun e w' => e = .returned (.int .i64 (if 65536 < n then 3 else if b = true then 0 else 40)) ∧ w' = w1.alloc (.cells #[.slice ada n ca] 25) := by
  have h := check_any b _ 1 _ _ (hs1 w1 ada n ca k)
  rw [ckE1] at h
  exact h
theorem check2_any (b : Bool) (w1 : World) (ada adb : Option Addr) (n ca m cb : Nat) (k : n ≤ maxLen) (q : m ≤ maxLen) :
    Calls Try.prog 47 #[.bool b, .slice (some ⟨w1.heap.size, 0, none⟩) 2 2] (w1.alloc (.cells #[.slice ada n ca, .slice adb m cb] 25)) fun e w' => e = .returned (.int .i64 (if 65536 < n ∨ 65536 < m then 3 else if b = true then 0 else 40)) ∧ w' = w1.alloc (.cells #[.slice ada n ca, .slice adb m cb] 25) := by
  have h := check_any b _ 2 _ _ (hs2 w1 ada adb n ca m cb k q)
  rw [ckE2] at h
  exact h
end Go.Proofs.Ytfcneciknldohaa
