/-
  Layer 14's msg: which fields a kind has, where a field stands in a list, how great it is and its ends.
-/
import Derived.Test.YtfcbgkcclganmaaDoorMgCon
import Derived.Test.YtfcbgkcclganmaaDoorFwD
import Derived.Test.YtfcbgkcclganmaaDoorPpH
set_option linter.unusedVariables false
set_option linter.unusedSimpArgs false
namespace Go.Proofs.YtfcbgkcclganmaaDoor
open Go.RowKit

/-- The fields of a kind. -/
def fdL (k : Int) : List Int :=
  if k = 1 ∨ k = 8 then [0, 1] else if k = 2 then [2, 3, 5] else if k = 3 then [0, 1, 2, 4] else if k = 4 then [2, 4, 5, 6] else if k = 5 then [0, 1, 2, 4, 5, 6] else if k = 6 then [1, 2, 4] else if k = 7 then [1, 2] else []
def szF (m : Ms) : Nat → Int
  | 0 => m.fr
  | 1 => m.inc
  | 2 => m.rd
  | 3 => m.h
  | 4 => m.pt
  | 5 => m.ps
  | _ => (m.d.length : Int)
def leF : Nat → Int
  | 0 => 1
  | 1 => 0
  | 2 => 0
  | 3 => 1
  | 4 => 0
  | 5 => 1
  | _ => 0
def moF : Nat → Int
  | 0 => 64
  | 1 => 2147483647
  | 2 => 256
  | 3 => 64
  | 4 => 1023
  | 5 => 1024
  | _ => 32768
theorem less7 {k : Nat} (h : k < 7) : k = 0 ∨ k = 1 ∨ k = 2 ∨ k = 3 ∨ k = 4 ∨ k = 5 ∨ k = 6 := by omega
theorem fdL_none {k : Int} (h : ¬ (1 ≤ k ∧ k ≤ 8)) : fdL k = [] := by
  unfold fdL
  rw [if_neg (by omega), if_neg (by omega), if_neg (by omega), if_neg (by omega), if_neg (by omega), if_neg (by omega), if_neg (by omega)]
theorem fdL_len (k : Int) : (fdL k).length ≤ 6 := by
  unfold fdL
  repeat' split
  all_goals simp
theorem fdL_lt (k : Int) : ∀ x ∈ fdL k, 0 ≤ x ∧ x < 7 := by
  unfold fdL
  repeat' split
  all_goals decide
theorem ow_new14 (b o n cap : Nat) : Ow b (.slice (some ⟨b, o, none⟩) n cap) := fun a n' c e hn => by cases e; exact Nat.le_refl _
set_option maxRecDepth 100000 in
set_option maxHeartbeats 2000000 in
theorem fieldsOf_any (k : Int) (w : World) :
    Calls Tryd.prog 19 #[.int .i64 k] w fun e w' => ∃ v, e = .returned v ∧ Is w' v (fdL k) ∧ Ow w.heap.size v ∧ Below w.heap.size w w' := by
  by_cases hk : 1 ≤ k ∧ k ≤ 8
  · rcases kind8 hk.1 hk.2 with rfl | rfl | rfl | rfl | rfl | rfl | rfl | rfl
    · clear hk
      go_enter Tryd.func19, Tryd.ntmps19
      go_wp2
      go_ret
      exact ⟨_, rfl, is_list w [0, 1] _ _ rfl (by decide), ow_new14 _ _ _ _, bel1 _ _⟩
    · clear hk
      go_enter Tryd.func19, Tryd.ntmps19
      go_wp2
      go_ret
      exact ⟨_, rfl, is_list w [2, 3, 5] _ _ rfl (by decide), ow_new14 _ _ _ _, bel1 _ _⟩
    · clear hk
      go_enter Tryd.func19, Tryd.ntmps19
      go_wp2
      go_ret
      exact ⟨_, rfl, is_list w [0, 1, 2, 4] _ _ rfl (by decide), ow_new14 _ _ _ _, bel1 _ _⟩
    · clear hk
      go_enter Tryd.func19, Tryd.ntmps19
      go_wp2
      go_ret
      exact ⟨_, rfl, is_list w [2, 4, 5, 6] _ _ rfl (by decide), ow_new14 _ _ _ _, bel1 _ _⟩
    · clear hk
      go_enter Tryd.func19, Tryd.ntmps19
      go_wp2
      go_ret
      exact ⟨_, rfl, is_list w [0, 1, 2, 4, 5, 6] _ _ rfl (by decide), ow_new14 _ _ _ _, bel1 _ _⟩
    · clear hk
      go_enter Tryd.func19, Tryd.ntmps19
      go_wp2
      go_ret
      exact ⟨_, rfl, is_list w [1, 2, 4] _ _ rfl (by decide), ow_new14 _ _ _ _, bel1 _ _⟩
    · clear hk
      go_enter Tryd.func19, Tryd.ntmps19
      go_wp2
      go_ret
      exact ⟨_, rfl, is_list w [1, 2] _ _ rfl (by decide), ow_new14 _ _ _ _, bel1 _ _⟩
    · clear hk
      go_enter Tryd.func19, Tryd.ntmps19
      go_wp2
      go_ret
      exact ⟨_, rfl, is_list w [0, 1] _ _ rfl (by decide), ow_new14 _ _ _ _, bel1 _ _⟩
  · have HF : Hid (fdL k = []) := fdL_none hk
    have n1 : ¬ k = 1 := by omega
    have n2 : ¬ k = 2 := by omega
    have n3 : ¬ k = 3 := by omega
    have n4 : ¬ k = 4 := by omega
    have n5 : ¬ k = 5 := by omega
    have n6 : ¬ k = 6 := by omega
    have n7 : ¬ k = 7 := by omega
    have n8 : ¬ k = 8 := by omega
    clear hk
    go_enter Tryd.func19, Tryd.ntmps19
    go_wp2
    go_ret
    exact ⟨_, rfl, by rw [HF.out]; exact (oi_nil w.heap.size w).is.1, ow_nil14 _, Below.refl _ _⟩
set_option maxRecDepth 100000 in
set_option maxHeartbeats 2000000 in
theorem index_any (v : Value) (l : List Int) (x : Int) (w : World) (h : Is w v l) :
    Calls Tryd.prog 41 #[v, .int .i64 x] w fun e w' => ∃ r : Int, e = .returned (.int .i64 r) ∧ (0 ≤ r ↔ x ∈ l) ∧ w' = w := by
  have HA : Hid (Is w v l) := h
  obtain ⟨ad, cap, rfl, k1, k2⟩ := h.len
  unfold maxLen at k2
  obtain ⟨n, hn⟩ : ∃ n, l.length = n := ⟨_, rfl⟩
  have HN : Hid (l.length = n) := hn
  rw [hn] at k1 HA ⊢
  clear h hn
  go_enter Tryd.func41, Tryd.ntmps41
  go_upto_region 2 with fail
  go_loopw [8] (fun s8 wr => ∃ j : Nat, j ≤ n ∧ s8 = .int .i64 (j : Int) ∧ Hid (∀ k, k < j → ¬ l.getD k 0 = x) ∧ wr = w) (fun s8 _ => n - (intOf s8).toNat)
  case atStart => exact ⟨0, by omega, rfl, fun k hk => by omega, rfl⟩
  case round =>
    obtain ⟨j, hj, rfl, HS, hwr⟩ := hrel
    have hwr := hwr.symm
    subst hwr
    by_cases hlt : j < n
    · have hjI : (j : Int) < (n : Int) := by omega
      have hN := HN.out
      obtain ⟨b, o, rfl, ca⟩ := HA.out.cel j (by omega)
      have HX : Hid (l.getD j 0 ∈ l) := getI_mem (by omega)
      by_cases heq : l.getD j 0 = x
      · have HM : Hid (x ∈ l) := by show _ ∈ _; rw [← heq]; exact HX.out
        rw [heq] at ca
        clear heq hN HX
        go_wp2
        go_ret
        exact ⟨(j : Int), rfl, ⟨fun _ => HM.out, fun _ => by omega⟩, rfl⟩
      · have HS2 : Hid (∀ k, k < j + 1 → ¬ l.getD k 0 = x) := fun k hk => by
          by_cases e : k = j
          · subst e; exact heq
          · exact HS.out k (by omega)
        have heq2 : ¬ x = l.getD j 0 := fun q => heq q.symm
        have hB : (x == l.getD j 0) = false := by rw [beq_eq_false_iff_ne]; exact heq2
        clear hN HX HS
        generalize l.getD j 0 = y at *
        go_wp2
        go_roundw
        case rel => exact ⟨j + 1, by omega, by go_num, HS2, by trivial⟩
        case measure => simp [intOf]; omega
    · obtain rfl : j = n := by omega
      have hjI : ¬ (j : Int) < (j : Int) := by omega
      have HM : Hid (¬ x ∈ l) := fun q => by
        obtain ⟨k, hk, e⟩ := List.getElem_of_mem q
        have hN := HN.out
        exact HS.out k (by omega) (by simp [List.getD, hk, e])
      clear HS
      go_wp2
      go_ret
      exact ⟨-1, rfl, ⟨fun q => by omega, fun q => absurd q HM.out⟩, rfl⟩
set_option maxRecDepth 100000 in
set_option maxHeartbeats 2000000 in
theorem contains_any (v : Value) (l : List Int) (x : Int) (w : World) (h : Is w v l) :
    Calls Tryd.prog 26 #[v, .int .i64 x] w fun e w' => e = .returned (.bool (decide (x ∈ l))) ∧ w' = w := by
  have C := index_any v l x w h
  obtain ⟨ad, cap, rfl, k1, k2⟩ := h.len
  clear h
  go_enter Tryd.func26, Tryd.ntmps26
  go_wp2_with fail
  refine C.mono ?_
  rintro e w1 ⟨r, rfl, hr, hw⟩
  have hw := hw.symm
  subst hw
  have HR : Hid (decide (0 ≤ r) = decide (x ∈ l)) := by show _ = _; simp only [hr]
  clear hr C
  go_wp2
  go_ret
  exact ⟨by rw [← HR.out]; rfl, by trivial⟩
set_option maxRecDepth 100000 in
set_option maxHeartbeats 2000000 in
theorem size_any (m : Ms) (ad : Option Addr) (cap : Nat) (f : Nat) (hf : f < 7) (w : World) :
    Calls Tryd.prog 22 #[msV m (.slice ad m.d.length cap), .int .i64 (f : Int)] w fun e w' => e = .returned (.int .i64 (szF m f)) ∧ Below w.heap.size w w' := by
  obtain ⟨k, fr, inc, rd, h, pt, ps, d⟩ := m
  unfold msV
  dsimp only
  rcases less7 hf with rfl | rfl | rfl | rfl | rfl | rfl | rfl
  all_goals
    clear hf
    go_enter Tryd.func22, Tryd.ntmps22
    go_wp2
    go_ret
    exact ⟨rfl, bel1 _ _⟩
set_option maxRecDepth 100000 in
set_option maxHeartbeats 2000000 in
theorem ends_any (f : Nat) (hf : f < 7) (w : World) :
    Calls Tryd.prog 27 #[.int .i64 (f : Int)] w fun e w' => e = .returned (.tuple #[.int .i64 (leF f), .int .i64 (moF f)]) ∧ w' = w := by
  rcases less7 hf with rfl | rfl | rfl | rfl | rfl | rfl | rfl
  all_goals
    clear hf
    go_enter Tryd.func27, Tryd.ntmps27
    go_wp2
    go_ret2
    exact ⟨rfl, rfl⟩
end Go.Proofs.YtfcbgkcclganmaaDoor
