/-
  The laws of layer 17: JournalNone.
-/
import Derived.Test.YtkbpcmjdfaokhaaDoorZ25

set_option linter.unusedVariables false
set_option linter.unusedSimpArgs false
namespace Go.Proofs.YtkbpcmjdfaokhaaDoor
open Go.RowKit

/-- A journal that is none: nil, or one that New did not make. -/
structure Jour0 where
  Qt : World → Value → Prop
  qL : ∀ {w w' : World} {p : Value}, Qt w p → Below w.heap.size w w' → Qt w' p
  qN : ∀ w : World, Qt w (.pointer none)
  qZ : ∀ w : World, Qt (w.alloc (.cells #[.pointer none, .int .i64 0, .int .i64 0, .int .i64 0, .int .i64 0, .int .i64 0] 51)) (.pointer (some ⟨w.heap.size, 0, none⟩))
  new : ∀ (w : World) (at_ size : Int), Bd64 at_ → Bd64 size →
    Calls Tryd.prog 10 #[.pointer none, .int .i64 at_, .int .i64 size] w fun e w' => e = .returned (.tuple #[.pointer none, .int .i64 1]) ∧ Below w.heap.size w w'
  read : ∀ (w : World) (q : Value), Qt w q →
    Calls Tryd.prog 16 #[q, .int .i64 1] w fun e w' => ∃ v, e = .returned (.tuple #[v, .int .i64 1]) ∧ Txs w' v [] ∧ Below w.heap.size w w'
  begin : ∀ (w : World) (q : Value), Qt w q →
    Calls Tryd.prog 17 #[q, .int .i64 1] w fun e w' => e = .returned (.int .i64 1) ∧ Below w.heap.size w w'
  append : ∀ (w : World) (q v : Value) (d : List Nat), Qt w q → Bs w v d → d.length ≤ 1000 →
    Calls Tryd.prog 18 #[q, v] w fun e w' => e = .returned (.int .i64 1) ∧ Below w.heap.size w w'
  left : ∀ (w : World) (q : Value), Qt w q →
    Calls Tryd.prog 15 #[q] w fun e w' => e = .returned (.int .i64 0) ∧ Below w.heap.size w w'
set_option maxRecDepth 100000 in
set_option maxHeartbeats 8000000 in
theorem journalNone_any {V : Disk1} (J : Jour1 V) (Z : Jour0) (at_ size : Int) (h1 : Bd64 at_) (h2 : Bd64 size) (v : Value) (l : List Nat) (w : World) (h : Bs w v l) (hT : JT w) :
    Calls Tryd.prog 4 #[.int .i64 at_, .int .i64 size, v] w fun e w' => e = .returned (.bool true) ∧ Below w.heap.size w w' := by
  have HL : Hid (Bs w v l) := h
  have HA : Hid (Bd64 at_ ∧ Bd64 size) := ⟨h1, h2⟩
  obtain ⟨ad, cap, rfl, -, -⟩ := h.len
  obtain ⟨n, hn⟩ : ∃ n, l.length = n := ⟨_, rfl⟩
  have HN : Hid (l.length = n) := hn
  rw [hn] at HL ⊢
  have HT : Hid (JT w) := hT
  clear h h1 h2 hn hT
  go_enter Tryd.func4, Tryd.ntmps4
  go_wp2_with fail
  refine (awake17 J w HT.out).mono ?_
  rintro e w1 ⟨rfl, hb1⟩
  have HB1 : Hid (Below w.heap.size w w1) := hb1
  clear hb1
  by_cases g1 : 1000 < n
  · have g1I : (1000 : Int) < (n : Int) := by omega
    go_wp2
    go_ret
    exact ⟨rfl, HB1.out⟩
  have g1I : ¬ (1000 : Int) < (n : Int) := by omega
  go_wp2_with fail
  refine (Z.new w1 at_ size HA.out.1 HA.out.2).mono ?_
  rintro e w3 ⟨rfl, hb3⟩
  have HB3 : Hid (Below w.heap.size w w3) := bchain HB1.out hb3
  clear hb3 HB1
  obtain ⟨w4, hw4⟩ : ∃ w4, w4 = w3.alloc (.cells #[.pointer none, .int .i64 0, .int .i64 0, .int .i64 0, .int .i64 0, .int .i64 0] 51) := ⟨_, rfl⟩
  obtain ⟨w5, hw5⟩ : ∃ w5, w5 = w4.alloc (.cells #[.pointer none, .pointer (some ⟨w3.heap.size, 0, none⟩)] 31) := ⟨_, rfl⟩
  have s4 : w4.heap.size = w3.heap.size + 1 := by rw [hw4]; simp
  have H5 : Hid (Below w.heap.size w w5 ∧ ∀ j, j < 2 → ∃ qo, w5.cell? ⟨w3.heap.size + 1, j, none⟩ = some (.pointer qo) ∧ Z.Qt w5 (.pointer qo)) := by
    have b4 : Below w3.heap.size w3 w4 := by rw [hw4]; exact bel1 _ _
    have b5 : Below w4.heap.size w4 w5 := by rw [hw5]; exact bel1 _ _
    have z4 : Z.Qt w4 (.pointer (some ⟨w3.heap.size, 0, none⟩)) := by rw [hw4]; exact Z.qZ w3
    refine ⟨bchain (bchain HB3.out b4) b5, fun j hj => ?_⟩
    rw [← s4]
    have : j = 0 ∨ j = 1 := by omega
    rcases this with rfl | rfl
    · exact ⟨none, by rw [hw5]; simp [go_sem], Z.qN w5⟩
    · exact ⟨_, by rw [hw5]; simp [go_sem], Z.qL z4 b5⟩
  go_upto_region 9 with fail
  rw [← hw4, ← hw5]
  clear hw4 hw5 s4 HB3
  generalize w3.heap.size + 1 = bl at *
  go_loopw [38] (fun s38 wr => ∃ j : Nat, j ≤ 2 ∧ s38 = .int .i64 (j : Int) ∧ Hid (Below w5.heap.size w5 wr)) (fun s38 _ => 2 - (intOf s38).toNat)
  case atStart => exact ⟨0, by omega, rfl, Below.refl _ _⟩
  case round =>
    obtain ⟨j, hj, rfl, HB⟩ := hrel
    by_cases hlt : j < 2
    · have hjI : (j : Int) < (2 : Int) := by omega
      have hj0 : (0 : Int) ≤ (j : Int) := by omega
      obtain ⟨qo, c0, hq⟩ := H5.out.2 j hlt
      have x0 := cell_later HB.out c0
      have HQ : Hid (Z.Qt wr (.pointer qo)) := Z.qL hq HB.out
      clear c0 hq
      go_wp2_with fail
      refine (Z.read wr _ HQ.out).mono ?_
      rintro e w6 ⟨v6, rfl, hT6, hb6⟩
      have HB6 : Hid (Below w5.heap.size w5 w6 ∧ Z.Qt w6 (.pointer qo)) := ⟨bchain HB.out hb6, Z.qL HQ.out hb6⟩
      obtain ⟨a6, c6, rfl, -, -⟩ := hT6.len
      rw [show ([] : List (List Nat)).length = 0 from rfl]
      clear hb6 HB HQ x0 hT6
      go_wp2_with fail
      refine (Z.begin w6 _ HB6.out.2).mono ?_
      rintro e w7 ⟨rfl, hb7⟩
      have HB7 : Hid (Below w5.heap.size w5 w7 ∧ Z.Qt w7 (.pointer qo)) := ⟨bchain HB6.out.1 hb7, Z.qL HB6.out.2 hb7⟩
      clear hb7 HB6
      go_wp2_with fail
      refine (Z.append w7 _ _ l HB7.out.2 (HL.out.later (bchain H5.out.1 HB7.out.1)) (by have := HN.out; omega)).mono ?_
      rintro e w8 ⟨rfl, hb8⟩
      have HB8 : Hid (Below w5.heap.size w5 w8 ∧ Z.Qt w8 (.pointer qo)) := ⟨bchain HB7.out.1 hb8, Z.qL HB7.out.2 hb8⟩
      clear hb8 HB7
      go_wp2_with fail
      refine (Z.left w8 _ HB8.out.2).mono ?_
      rintro e w9 ⟨rfl, hb9⟩
      have HB9 : Hid (Below w5.heap.size w5 w9) := bchain HB8.out.1 hb9
      clear hb9 HB8
      go_wp2
      go_roundw
      case rel => exact ⟨j + 1, by omega, by go_num, HB9⟩
      case measure => simp [intOf]; omega
    · obtain rfl : j = 2 := by omega
      have HE : Hid (Below w.heap.size w wr) := bchain H5.out.1 HB.out
      clear HB
      go_wp2
      go_ret
      exact ⟨rfl, HE.out⟩
end Go.Proofs.YtkbpcmjdfaokhaaDoor
