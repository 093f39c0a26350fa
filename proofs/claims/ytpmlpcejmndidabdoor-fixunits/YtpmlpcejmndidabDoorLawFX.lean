/-
  FixUnits: for every list of ops the law regattalaw02.FixUnits returns true: a unit answers as the functions do, and has counted each result that was held, since it was cleared; none is lost, and nothing else is counted. Its condition: the table of math/bits.TrailingZeros64 reads as its initialiser lays it (the card ties it to the program's text).
-/
import Derived.Test.YtpmlpcejmndidabDoorFWalkX
import Derived.Test.YtpmlpcejmndidabDoorFWalkC
set_option linter.unusedVariables false
set_option linter.unusedSimpArgs false
namespace Go.Proofs.YtpmlpcejmndidabDoor
open Go.RowKit

/-- The list's cells. -/
def OCells (w : World) (b off len : Nat) (K A B : Nat → Int) : Prop := ∀ j, j < len → w.cell? ⟨b, off + j * 3, none⟩ = some (.int .i64 (K j)) ∧ w.cell? ⟨b, off + j * 3 + 1, none⟩ = some (.int .i64 (A j)) ∧ w.cell? ⟨b, off + j * 3 + 2, none⟩ = some (.int .i64 (B j))
theorem OCells.later {w w' : World} {b off len : Nat} {K A B : Nat → Int} (h : OCells w b off len K A B) (hb : Below w.heap.size w w') : OCells w' b off len K A B := fun j hj => ⟨cell_later hb (h j hj).1, cell_later hb (h j hj).2.1, cell_later hb (h j hj).2.2⟩
/-- A block of three cells. -/
structure O3 (p : Nat) (x y z : Value) (w : World) : Prop where
  c0 : w.cell? ⟨p, 0, none⟩ = some x
  c1 : w.cell? ⟨p, 1, none⟩ = some y
  c2 : w.cell? ⟨p, 2, none⟩ = some z
theorem O3.new (w : World) (x y z : Value) (t : TypeId) : O3 w.heap.size x y z (w.alloc (.cells #[x, y, z] t)) := ⟨by simp [go_sem], by simp [go_sem], by simp [go_sem]⟩
theorem O3.later {p : Nat} {x y z : Value} {w w' : World} (h : O3 p x y z w) (hb : Below w.heap.size w w') : O3 p x y z w' := ⟨cell_later hb h.c0, cell_later hb h.c1, cell_later hb h.c2⟩
theorem O3.un {p d : Nat} {n : Int} {x y z : Value} {w w' : World} (h : O3 p x y z w) (hp : p ≠ d) (hU : Un d n w w') : O3 p x y z w' := ⟨hU.o _ _ hp h.c0, hU.o _ _ hp h.c1, hU.o _ _ hp h.c2⟩
theorem TabAt.un {d : Nat} {n : Int} {w w' : World} (h : TabAt w) (hp : 3 ≠ d) (hU : Un d n w w') : TabAt w' := fun j hj => hU.o _ _ hp (h j hj)
theorem TabAt.lt {w : World} (h : TabAt w) : 3 < w.heap.size := World.block_lt_of_cell? _ _ (h 0 (by omega))

theorem bi_true (n : Int) : n + bi true = n + 1 := rfl
theorem bi_false (n : Int) : n + bi false = n := by unfold bi; simp
set_option maxHeartbeats 4000000 in
theorem fixUnits_walk (adr : Option Addr) (len cap b off : Nat) (K A B : Nat → Int) (hA : ∀ j, -9223372036854775808 ≤ A j ∧ A j ≤ 9223372036854775807) (hB : ∀ j, -9223372036854775808 ≤ B j ∧ B j ≤ 9223372036854775807) (hadr : 0 < len → adr = some ⟨b, off, none⟩) (hlen : len ≤ cap) (hcap : cap ≤ maxLen)
    (w : World) (hc : OCells w b off len K A B) (hT : TabAt w) :
    Calls Tryd.prog 3 #[.slice adr len cap] w fun e w' => e = .returned (.bool true) ∧ Below w.heap.size w w' := by
  unfold maxLen at hcap
  have HB : Hid (∀ j, -9223372036854775808 ≤ A j ∧ A j ≤ 9223372036854775807 ∧ -9223372036854775808 ≤ B j ∧ B j ≤ 9223372036854775807) := fun j => ⟨(hA j).1, (hA j).2, (hB j).1, (hB j).2⟩
  have HC : Hid (OCells w b off len K A B) := hc
  have HT : Hid (TabAt w) := hT
  have HA : Hid (0 < len → adr = some ⟨b, off, none⟩) := hadr
  have htl := hT.lt
  clear hA hB hc hT hadr
  go_enter Tryd.func3, Tryd.ntmps3
  go_wp2_with fail
  refine (kawake_any _).mono ?_
  rintro e w1 ⟨rfl, W1⟩
  by_cases h200 : (200 : Int) < (len : Int)
  · go_wp2
    go_ret
    exact ⟨rfl, W1⟩
  · have hd := W1.size
    have U0 : (w1.alloc (.cells #[.int .i64 0] 28)).cell? ⟨w1.heap.size, 0, none⟩ = some (.int .i64 0) := by simp [go_sem]
    have F0 : (w1.alloc (.cells #[.int .i64 0] 28)).frozen? ⟨w1.heap.size, 0, none⟩ = false := by simp [go_sem]
    have V0 := bchain W1 (bel1 w1 (.cells #[.int .i64 0] 28))
    clear W1
    go_wp2
    generalize w1.alloc (.cells #[.int .i64 0] 28) = w2 at *
    generalize w1.heap.size = d at *
    go_loopw [5, 19] (fun s5 s19 wr => ∃ (j : Nat) (n : Int), j ≤ len ∧ 0 ≤ n ∧ n ≤ (j : Int) ∧ s5 = .int .i64 n ∧ s19 = .int .i64 (j : Int) ∧ wr.cell? ⟨d, 0, none⟩ = some (.int .i64 n) ∧ wr.frozen? ⟨d, 0, none⟩ = false ∧ Below w.heap.size w wr) (fun _ s19 _ => len - (intOf s19).toNat)
    case atStart => exact ⟨0, 0, by omega, by omega, by omega, rfl, rfl, U0, F0, V0⟩
    case round =>
      clear U0 F0 V0
      obtain ⟨j, n, hj, n0, n1, rfl, rfl, U, F, V⟩ := hrel
      by_cases hlt : (j : Int) < (len : Int)
      · obtain rfl := HA.out (by omega)
        obtain ⟨l0, l1, l2⟩ := (HC.out.later V) j (by omega)
        obtain ⟨a0, a1, b0, b1⟩ := HB.out j
        have hj0 : (0 : Int) ≤ (j : Int) := by omega
        have hdp : d < wr.heap.size := World.block_lt_of_cell? _ _ U
        generalize K j = k at *
        generalize A j = x at *
        generalize B j = y at *
        go_upto_region 11 with fail
        have E9 := O3.new wr (.int .i64 k) (.int .i64 x) (.int .i64 y) 31
        have U9 := cell_later (bel1 wr (.cells #[.int .i64 k, .int .i64 x, .int .i64 y] 31)) U
        have F9 := frozen_later (bel1 wr (.cells #[.int .i64 k, .int .i64 x, .int .i64 y] 31)) U F
        have V9 := bchain V (bel1 wr (.cells #[.int .i64 k, .int .i64 x, .int .i64 y] 31))
        clear U F V l0 l1 l2
        generalize wr.alloc (.cells #[.int .i64 k, .int .i64 x, .int .i64 y] 31) = w9 at *
        have hpd : wr.heap.size ≠ d := by omega
        generalize wr.heap.size = p at *
        obtain ⟨e0, e1, e2⟩ := E9
        by_cases k0 : k < 1
        · go_wp2
          go_roundw
          case rel => exact ⟨j + 1, n, by omega, n0, by omega, rfl, by rw [show ((j + 1 : Nat) : Int) = (j : Int) + 1 by omega], U9, F9, V9⟩
          case measure => simp [intOf]; omega
        · by_cases k1 : 9 < k
          · go_wp2
            go_roundw
            case rel => exact ⟨j + 1, n, by omega, n0, by omega, rfl, by rw [show ((j + 1 : Nat) : Int) = (j : Int) + 1 by omega], U9, F9, V9⟩
            case measure => simp [intOf]; omega
          · by_cases k8 : k = 8
            · subst k8
              go_wp2_with fail
              refine (clear_any d n _ U9 F9).mono ?_
              rintro e w10 ⟨rfl, hU⟩
              have V10 := hU.b w.heap.size w hd (by have := V9.size; omega) V9
              have U10 := hU.c
              have F10 := hU.f
              clear hU U9 F9 V9 e0 e1 e2
              go_wp2_with fail
              refine (clear_nil _).mono ?_
              rintro e wz ⟨rfl, hz⟩
              subst hz
              go_wp2
              go_roundw
              case rel => exact ⟨j + 1, 0, by omega, by omega, by omega, rfl, by rw [show ((j + 1 : Nat) : Int) = (j : Int) + 1 by omega], U10, F10, V10⟩
              case measure => simp [intOf]; omega
            · have WA0 : Hid (∀ W : World, Calls Tryd.prog 6 #[.agg #[.int .i64 k, .int .i64 x, .int .i64 y]] W fun e w' => e = .returned (.tuple #[.int .i64 (wx k x y), .bool (wo k x y)]) ∧ Below W.heap.size W w') := fun W => want_any k x y (by omega) (by omega) k8 a0 a1 b0 b1 W
              have SU0 : Hid (∀ W : World, TabAt W → W.cell? ⟨d, 0, none⟩ = some (.int .i64 n) → W.frozen? ⟨d, 0, none⟩ = false → Calls Tryd.prog 7 #[.pointer (some ⟨d, 0, none⟩), .agg #[.int .i64 k, .int .i64 x, .int .i64 y]] W fun e w' => e = .returned (.int .i64 (wx k x y)) ∧ Un d (n + bi (wo k x y)) W w') := fun W hT hc hf => step_any_un k x y (by omega) (by omega) k8 a0 a1 b0 b1 d n n0 (by omega) W hT hc hf
              have SN : Hid (∀ W : World, TabAt W → Calls Tryd.prog 7 #[.pointer none, .agg #[.int .i64 k, .int .i64 x, .int .i64 y]] W fun e w' => e = .returned (.int .i64 (wx k x y)) ∧ Below W.heap.size W w') := fun W hT => step_any_nil k x y (by omega) (by omega) k8 a0 a1 b0 b1 W hT
              generalize wx k x y = X at *
              cases ho : wo k x y
              · have WA : Hid (∀ W : World, Calls Tryd.prog 6 #[.agg #[.int .i64 k, .int .i64 x, .int .i64 y]] W fun e w' => e = .returned (.tuple #[.int .i64 X, .bool false]) ∧ Below W.heap.size W w') := by
                  intro W
                  have h := WA0.out W
                  rw [ho] at h
                  exact h
                have SU : Hid (∀ W : World, TabAt W → W.cell? ⟨d, 0, none⟩ = some (.int .i64 n) → W.frozen? ⟨d, 0, none⟩ = false → Calls Tryd.prog 7 #[.pointer (some ⟨d, 0, none⟩), .agg #[.int .i64 k, .int .i64 x, .int .i64 y]] W fun e w' => e = .returned (.int .i64 X) ∧ Un d (n) W w') := by
                  intro W hT hc hf
                  have h := SU0.out W hT hc hf
                  rw [ho, bi_false] at h
                  exact h
                clear WA0 SU0 ho
                go_wp2_with fail
                refine (WA.out _).mono ?_
                rintro e w10 ⟨rfl, hb⟩
                have E10 : O3 p (.int .i64 k) (.int .i64 x) (.int .i64 y) w10 := O3.later ⟨e0, e1, e2⟩ hb
                have U10 := cell_later hb U9
                have F10 := frozen_later hb U9 F9
                have V10 := bchain V9 hb
                clear hb e0 e1 e2 U9 F9 V9 WA
                have T10 : Hid (TabAt w10) := HT.out.later V10
                obtain ⟨e0, e1, e2⟩ := E10
                go_wp2_with fail
                refine (SU.out _ T10.out U10 F10).mono ?_
                rintro e w11 ⟨rfl, hU⟩
                have E11 : O3 p (.int .i64 k) (.int .i64 x) (.int .i64 y) w11 := O3.un ⟨e0, e1, e2⟩ hpd hU
                have V11 := hU.b w.heap.size w hd (by have := V10.size; omega) V10
                have T11 : Hid (TabAt w11) := T10.out.un (by omega) hU
                have U11 := hU.c
                have F11 := hU.f
                clear hU e0 e1 e2 U10 F10 V10 T10 SU
                obtain ⟨e0, e1, e2⟩ := E11
                go_wp2_with fail
                refine (SN.out _ T11.out).mono ?_
                rintro e w12 ⟨rfl, hb⟩
                have U12 := cell_later hb U11
                have F12 := frozen_later hb U11 F11
                have V12 := bchain V11 hb
                clear hb e0 e1 e2 U11 F11 V11 T11 SN
                go_wp2_with fail
                refine (count_any d (n) _ U12).mono ?_
                rintro e wz ⟨rfl, hz⟩
                subst hz
                go_wp2_with fail
                refine (count_nil _).mono ?_
                rintro e wz ⟨rfl, hz⟩
                subst hz
                go_wp2
                go_roundw
                case rel => exact ⟨j + 1, n, by omega, by omega, by omega, rfl, by rw [show ((j + 1 : Nat) : Int) = (j : Int) + 1 by omega], U12, F12, V12⟩
                case measure => simp [intOf]; omega
              · have WA : Hid (∀ W : World, Calls Tryd.prog 6 #[.agg #[.int .i64 k, .int .i64 x, .int .i64 y]] W fun e w' => e = .returned (.tuple #[.int .i64 X, .bool true]) ∧ Below W.heap.size W w') := by
                  intro W
                  have h := WA0.out W
                  rw [ho] at h
                  exact h
                have SU : Hid (∀ W : World, TabAt W → W.cell? ⟨d, 0, none⟩ = some (.int .i64 n) → W.frozen? ⟨d, 0, none⟩ = false → Calls Tryd.prog 7 #[.pointer (some ⟨d, 0, none⟩), .agg #[.int .i64 k, .int .i64 x, .int .i64 y]] W fun e w' => e = .returned (.int .i64 X) ∧ Un d (n + 1) W w') := by
                  intro W hT hc hf
                  have h := SU0.out W hT hc hf
                  rw [ho, bi_true] at h
                  exact h
                clear WA0 SU0 ho
                go_wp2_with fail
                refine (WA.out _).mono ?_
                rintro e w10 ⟨rfl, hb⟩
                have E10 : O3 p (.int .i64 k) (.int .i64 x) (.int .i64 y) w10 := O3.later ⟨e0, e1, e2⟩ hb
                have U10 := cell_later hb U9
                have F10 := frozen_later hb U9 F9
                have V10 := bchain V9 hb
                clear hb e0 e1 e2 U9 F9 V9 WA
                have T10 : Hid (TabAt w10) := HT.out.later V10
                obtain ⟨e0, e1, e2⟩ := E10
                go_wp2_with fail
                refine (SU.out _ T10.out U10 F10).mono ?_
                rintro e w11 ⟨rfl, hU⟩
                have E11 : O3 p (.int .i64 k) (.int .i64 x) (.int .i64 y) w11 := O3.un ⟨e0, e1, e2⟩ hpd hU
                have V11 := hU.b w.heap.size w hd (by have := V10.size; omega) V10
                have T11 : Hid (TabAt w11) := T10.out.un (by omega) hU
                have U11 := hU.c
                have F11 := hU.f
                clear hU e0 e1 e2 U10 F10 V10 T10 SU
                obtain ⟨e0, e1, e2⟩ := E11
                go_wp2_with fail
                refine (SN.out _ T11.out).mono ?_
                rintro e w12 ⟨rfl, hb⟩
                have U12 := cell_later hb U11
                have F12 := frozen_later hb U11 F11
                have V12 := bchain V11 hb
                clear hb e0 e1 e2 U11 F11 V11 T11 SN
                go_wp2_with fail
                refine (count_any d (n + 1) _ U12).mono ?_
                rintro e wz ⟨rfl, hz⟩
                subst hz
                go_wp2_with fail
                refine (count_nil _).mono ?_
                rintro e wz ⟨rfl, hz⟩
                subst hz
                go_wp2
                go_roundw
                case rel => exact ⟨j + 1, n + 1, by omega, by omega, by omega, rfl, by rw [show ((j + 1 : Nat) : Int) = (j : Int) + 1 by omega], U12, F12, V12⟩
                case measure => simp [intOf]; omega
      · obtain rfl : j = len := by omega
        go_wp2_with fail
        refine (count_any d n _ U).mono ?_
        rintro e wz ⟨rfl, hz⟩
        subst hz
        go_wp2
        go_ret
        exact ⟨rfl, V⟩
end Go.Proofs.YtpmlpcejmndidabDoor
