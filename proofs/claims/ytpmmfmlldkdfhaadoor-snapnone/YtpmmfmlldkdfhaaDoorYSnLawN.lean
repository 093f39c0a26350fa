/-
  The laws of layer 16: SnapNone.
-/
import Derived.Test.YtpmmfmlldkdfhaaDoorZ19

set_option linter.unusedVariables false
set_option linter.unusedSimpArgs false
namespace Go.Proofs.YtpmmfmlldkdfhaaDoor
open Go.RowKit

set_option maxRecDepth 100000 in
set_option maxHeartbeats 8000000 in
theorem snapNone_any {V : Disk1} (Q : Snap1 V) (Z : Snap0) (at_ room : Int) (h1 : Bd64 at_) (h2 : Bd64 room) (v : Value) (l : List Nat) (w : World) (h : Bs w v l) (hT : ST w) :
    Calls Tryd.prog 4 #[.int .i64 at_, .int .i64 room, v] w fun e w' => e = .returned (.bool true) ∧ Below w.heap.size w w' := by
  have HL : Hid (Bs w v l) := h
  have HA : Hid (Bd64 at_ ∧ Bd64 room ∧ ST w) := ⟨h1, h2, hT⟩
  obtain ⟨ad, cap, rfl, -, -⟩ := h.len
  obtain ⟨n, hn⟩ : ∃ n, l.length = n := ⟨_, rfl⟩
  have HN : Hid (l.length = n) := hn
  rw [hn] at HL ⊢
  clear h h1 h2 hT hn
  go_enter Tryd.func4, Tryd.ntmps4
  go_wp2_with fail
  refine (awake16 Q w HA.out.2.2).mono ?_
  rintro e w1 ⟨rfl, hb1⟩
  have HB1 : Hid (Below w.heap.size w w1) := hb1
  clear hb1
  by_cases g1 : 1000 < n
  · have g1I : (1000 : Int) < (n : Int) := by omega
    go_wp2
    go_ret
    exact ⟨rfl, HB1.out⟩
  have g1I : ¬ (1000 : Int) < (n : Int) := by omega
  go_wp2_with fail
  refine (Z.new w1 _ at_ room (Z.zN w1) HA.out.1 HA.out.2.1).mono ?_
  rintro e w2 ⟨rfl, hb2⟩
  have HB2 : Hid (Below w.heap.size w w2) := bchain HB1.out hb2
  clear hb2 HB1
  go_wp2_with fail
  refine (Z.new _ _ at_ room (Z.zZ w2) HA.out.1 HA.out.2.1).mono ?_
  rintro e w3 ⟨rfl, hb3⟩
  have HB3 : Hid (Below w.heap.size w w3) := bchain HB2.out (bchain (bel1 w2 _) hb3)
  clear hb3 HB2
  obtain ⟨w4, hw4⟩ : ∃ w4, w4 = w3.alloc (.cells #[.pointer none, .int .i64 0, .int .i64 0] 68) := ⟨_, rfl⟩
  obtain ⟨w5, hw5⟩ : ∃ w5, w5 = w4.alloc (.cells #[.pointer none, .pointer (some ⟨w3.heap.size, 0, none⟩)] 33) := ⟨_, rfl⟩
  have s4 : w4.heap.size = w3.heap.size + 1 := by rw [hw4]; simp
  have H5 : Hid (Below w.heap.size w w5 ∧ ∀ j, j < 2 → ∃ qo, w5.cell? ⟨w3.heap.size + 1, j, none⟩ = some (.pointer qo) ∧ Z.Qt w5 (.pointer qo)) := by
    have b4 : Below w3.heap.size w3 w4 := by rw [hw4]; exact bel1 _ _
    have b5 : Below w4.heap.size w4 w5 := by rw [hw5]; exact bel1 _ _
    have z4 : Z.Qt w4 (.pointer (some ⟨w3.heap.size, 0, none⟩)) := by rw [hw4]; exact Z.qZ w3
    refine ⟨bchain (bchain HB3.out b4) b5, fun j hj => ?_⟩
    rw [← s4]
    have : j = 0 ∨ j = 1 := by omega
    rcases this with rfl | rfl
    · exact ⟨none, by rw [hw5]; simp [go_sem], Z.qN w5⟩
    · exact ⟨_, by rw [hw5]; simp [go_sem], Z.qL z4 b5⟩
  go_upto_region 12 with fail
  rw [← hw4, ← hw5]
  clear hw4 hw5 s4 HB3
  generalize w3.heap.size + 1 = bl at *
  go_loopw [59] (fun s59 wr => ∃ j : Nat, j ≤ 2 ∧ s59 = .int .i64 (j : Int) ∧ Hid (Below w5.heap.size w5 wr)) (fun s59 _ => 2 - (intOf s59).toNat)
  case atStart => exact ⟨0, by omega, rfl, Below.refl _ _⟩
  case round =>
    obtain ⟨j, hj, rfl, HB⟩ := hrel
    by_cases hlt : j < 2
    · have hjI : (j : Int) < (2 : Int) := by omega
      have hj0 : (0 : Int) ≤ (j : Int) := by omega
      obtain ⟨qo, c0, hq⟩ := H5.out.2 j hlt
      have x0 := cell_later HB.out c0
      have HQ : Hid (Z.Qt wr (.pointer qo)) := Z.qL hq HB.out
      clear c0 hq
      go_wp2_with fail
      refine (Z.save wr _ _ l HQ.out (HL.out.later (bchain H5.out.1 HB.out)) (by have := HN.out; omega)).mono ?_
      rintro e w6 ⟨rfl, hb6⟩
      have HB6 : Hid (Below w5.heap.size w5 w6 ∧ Z.Qt w6 (.pointer qo)) := ⟨bchain HB.out hb6, Z.qL HQ.out hb6⟩
      clear hb6 HB HQ x0
      go_wp2_with fail
      refine (Z.load w6 _ HB6.out.2).mono ?_
      rintro e w7 ⟨v7, rfl, hB7, hb7⟩
      have HB7 : Hid (Below w5.heap.size w5 w7) := bchain HB6.out.1 hb7
      obtain ⟨a7, c7, rfl, -, -⟩ := hB7.len
      clear hb7 hB7 HB6
      simp only [List.length_nil]
      go_wp2
      go_roundw
      case rel => exact ⟨j + 1, by omega, by go_num, HB7⟩
      case measure => simp [intOf]; omega
    · obtain rfl : j = 2 := by omega
      have HE : Hid (Below w.heap.size w wr) := bchain H5.out.1 HB.out
      clear HB
      go_wp2
      go_ret
      exact ⟨rfl, HE.out⟩
end Go.Proofs.YtpmmfmlldkdfhaaDoor
