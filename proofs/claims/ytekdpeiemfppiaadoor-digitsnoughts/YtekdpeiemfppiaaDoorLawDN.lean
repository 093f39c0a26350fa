/-
  DigitsNoughts: for every text s and every whole k the law regattalaw03.DigitsNoughts returns true: noughts behind the last digit behind the point change nothing, nor does a point with noughts alone behind a whole number, as long as there aren't too many. No condition.
-/
import Derived.Test.YtekdpeiemfppiaaDoorLawDM
set_option linter.unusedVariables false
set_option linter.unusedSimpArgs false
namespace Go.Proofs.YtekdpeiemfppiaaDoor
open Go.RowKit

theorem noughts_more (p : List UInt8) (j : Nat) : p ++ List.replicate j 48 ++ [48] = p ++ List.replicate (j + 1) 48 := by
  rw [List.replicate_succ', List.append_assoc]
set_option maxRecDepth 100000 in
set_option maxHeartbeats 4000000 in
theorem digitsNoughts_walk (l : List UInt8) (k : Int) (hl : l.length ≤ maxLen) (k0 : -9223372036854775808 ≤ k) (k1 : k ≤ 9223372036854775807) (w : World) :
    Calls Tryd.prog 7 #[.string (bs l), .int .i64 k] w fun e w' => e = .returned (.bool true) ∧ Below w.heap.size w w' := by
  have z := bs_size l
  unfold maxLen at hl
  obtain ⟨B, A, E, K, hK, hBAE, PT⟩ := sparts_four l (by omega)
  have zA := bs_size A
  have zE := bs_size E
  have eE := bs_toList E
  have e0 : (ByteArray.mk #[]).toList = [] := ByteArray.toList_mk []
  have P0 : Hid (∀ W : World, Calls Tryd.prog 18 #[.string (bs l)] W fun e w' => e = .returned (.tuple #[.bool B, .string (bs A), .string (bs E), .bool K]) ∧ Below W.heap.size W w') := PT
  clear PT
  cases K
  · clear hBAE hK
    go_enter Tryd.func7, Tryd.ntmps7
    go_wp2_with fail
    refine (dawake_any _).mono ?_
    rintro e w1 ⟨rfl, W1⟩
    go_wp2_with fail
    refine (P0.out _).mono ?_
    rintro e w2 ⟨rfl, hb⟩
    have W2 := bchain W1 hb
    clear hb W1 P0
    go_wp2
    go_ret
    exact ⟨rfl, W2⟩
  · obtain ⟨hB, hA, hE⟩ := hBAE rfl
    clear hBAE
    by_cases c1 : k < 1
    · clear hK hB hA hE
      go_enter Tryd.func7, Tryd.ntmps7
      go_wp2_with fail
      refine (dawake_any _).mono ?_
      rintro e w1 ⟨rfl, W1⟩
      go_wp2_with fail
      refine (P0.out _).mono ?_
      rintro e w2 ⟨rfl, hb⟩
      have W2 := bchain W1 hb
      clear hb W1 P0
      go_wp2
      go_ret
      exact ⟨rfl, W2⟩
    · by_cases c2 : 40 < k
      · clear hK hB hA hE
        go_enter Tryd.func7, Tryd.ntmps7
        go_wp2_with fail
        refine (dawake_any _).mono ?_
        rintro e w1 ⟨rfl, W1⟩
        go_wp2_with fail
        refine (P0.out _).mono ?_
        rintro e w2 ⟨rfl, hb⟩
        have W2 := bchain W1 hb
        clear hb W1 P0
        go_wp2
        go_ret
        exact ⟨rfl, W2⟩
      · by_cases c3 : (300 : Int) < (l.length : Int)
        · clear hK hB hA hE
          go_enter Tryd.func7, Tryd.ntmps7
          go_wp2_with fail
          refine (dawake_any _).mono ?_
          rintro e w1 ⟨rfl, W1⟩
          go_wp2_with fail
          refine (P0.out _).mono ?_
          rintro e w2 ⟨rfl, hb⟩
          have W2 := bchain W1 hb
          clear hb W1 P0
          go_wp2
          go_ret
          exact ⟨rfl, W2⟩
        · by_cases c4 : 40 - k < (E.length : Int)
          · clear hK hB hA hE
            go_enter Tryd.func7, Tryd.ntmps7
            go_wp2_with fail
            refine (dawake_any _).mono ?_
            rintro e w1 ⟨rfl, W1⟩
            go_wp2_with fail
            refine (P0.out _).mono ?_
            rintro e w2 ⟨rfl, hb⟩
            have W2 := bchain W1 hb
            clear hb W1 P0
            go_wp2
            go_ret
            exact ⟨rfl, W2⟩
          · by_cases c5 : (20 : Int) < (A.length : Int)
            · clear hK hB hA hE
              go_enter Tryd.func7, Tryd.ntmps7
              go_wp2_with fail
              refine (dawake_any _).mono ?_
              rintro e w1 ⟨rfl, W1⟩
              go_wp2_with fail
              refine (P0.out _).mono ?_
              rintro e w2 ⟨rfl, hb⟩
              have W2 := bchain W1 hb
              clear hb W1 P0
              go_wp2
              go_ret
              exact ⟨rfl, W2⟩
            · obtain ⟨kk, rfl⟩ : ∃ kk : Nat, k = kk := ⟨k.toNat, by omega⟩
              have R := more_read l kk hK.symm (by omega) (by rw [← hA]; omega) (by rw [← hE]; omega)
              rw [← hE] at R
              obtain ⟨r1, r2, r3, r4⟩ := R
              have P1 := fun W => gparse_any l (by omega) W
              rw [r3] at P1
              clear hK hB hA hE
              by_cases hE0 : E = []
              · rw [if_pos hE0] at r1 r2 r4
                have P2 := fun W => gparse_any (l ++ [46] ++ List.replicate kk 48) (by simp; omega) W
                rw [r1, r2, r4] at P2
                obtain ⟨f, hf⟩ : ∃ f : Nat → List UInt8, ∀ j, f j = l ++ [46] ++ List.replicate j 48 := ⟨_, fun _ => rfl⟩
                rw [← hf] at P2
                have HF0 : Hid (bs (f 0) = bs (l ++ [46])) := by show _ = _; rw [hf]; simp
                have HFL : Hid (∀ j, j ≤ kk → (f j).length ≤ 1000) := fun j hj => by rw [hf]; simp; omega
                have HFS : Hid (∀ j, bs (f j) ++ ByteArray.mk #[48] = bs (f (j + 1))) := fun j => by
                  rw [hf, hf, ← noughts_more]
                  exact bs_app _ [48]
                have hb : (E == []) = true := by simpa using hE0
                have ed : bs l ++ ByteArray.mk #[46] = bs (f 0) := by rw [HF0.out]; exact bs_app l [46]
                have zd : (ByteArray.mk #[46]).size = 1 := rfl
                generalize prX l = X at *
                generalize prH l = H at *
                have bH : (H == H) = true := by cases H <;> rfl
                have Q1 : Hid (∀ W : World, Calls Tryd.prog 12 #[.string (bs l)] W fun e w' => e = .returned (.tuple #[.int .i64 X, .bool H, .int .i64 0]) ∧ Below W.heap.size W w') := P1
                have Q2 : Hid (∀ W : World, Calls Tryd.prog 12 #[.string (bs (f kk))] W fun e w' => e = .returned (.tuple #[.int .i64 X, .bool H, .int .i64 0]) ∧ Below W.heap.size W w') := P2
                clear P1 P2 r1 r2 r3 r4 hE0 hf
                go_enter Tryd.func7, Tryd.ntmps7
                go_wp2_with fail
                refine (dawake_any _).mono ?_
                rintro e w1 ⟨rfl, W1⟩
                go_wp2_with fail
                refine (P0.out _).mono ?_
                rintro e w2 ⟨rfl, hb⟩
                have W2 := bchain W1 hb
                clear hb W1 P0
                go_wp2
                go_loopw [9, 58] (fun s9 s58 wr => ∃ j : Nat, j ≤ kk ∧ s9 = .string (bs (f j)) ∧ s58 = .int .i64 (j : Int) ∧ Below w.heap.size w wr) (fun _ s58 _ => kk - (intOf s58).toNat)
                case atStart => exact ⟨0, by omega, by rw [HF0.out], rfl, W2⟩
                case round =>
                  clear W2
                  obtain ⟨j, hj, rfl, rfl, hW⟩ := hrel
                  by_cases hlt : (j : Int) < (kk : Int)
                  · have zj := bs_size (f j)
                    have hlj := HFL.out j hj
                    have HN : Hid (bs (f j) ++ ByteArray.mk #[48] = bs (f (j + 1))) := HFS.out j
                    have z48 : (ByteArray.mk #[48]).size = 1 := rfl
                    clear Q1 Q2
                    go_wp2
                    go_roundw
                    case rel => exact ⟨j + 1, by omega, by rw [← HN.out], by rw [show ((j + 1 : Nat) : Int) = (j : Int) + 1 by omega], hW⟩
                    case measure => simp [intOf]; omega
                  · obtain rfl : j = kk := by omega
                    have W9 := hW
                    clear hW
                    go_wp2_with fail
                    refine (Q1.out _).mono ?_
                    rintro e w3 ⟨rfl, hb⟩
                    have W3 := bchain W9 hb
                    clear hb W9 Q1
                    go_wp2_with fail
                    refine (Q2.out _).mono ?_
                    rintro e w4 ⟨rfl, hb⟩
                    have W4 := bchain W3 hb
                    clear hb W3 Q2
                    go_wp2
                    go_ret
                    exact ⟨rfl, W4⟩
              · rw [if_neg hE0, List.append_nil] at r1 r2 r4
                have P2 := fun W => gparse_any (l ++ List.replicate kk 48) (by simp; omega) W
                rw [r1, r2, r4] at P2
                obtain ⟨f, hf⟩ : ∃ f : Nat → List UInt8, ∀ j, f j = l ++ List.replicate j 48 := ⟨_, fun _ => rfl⟩
                rw [← hf] at P2
                have HF0 : Hid (bs (f 0) = bs (l)) := by show _ = _; rw [hf]; simp
                have HFL : Hid (∀ j, j ≤ kk → (f j).length ≤ 1000) := fun j hj => by rw [hf]; simp; omega
                have HFS : Hid (∀ j, bs (f j) ++ ByteArray.mk #[48] = bs (f (j + 1))) := fun j => by
                  rw [hf, hf, ← noughts_more]
                  exact bs_app _ [48]
                have hb : (E == []) = false := by simpa using hE0
                generalize prX l = X at *
                generalize prH l = H at *
                have bH : (H == H) = true := by cases H <;> rfl
                have Q1 : Hid (∀ W : World, Calls Tryd.prog 12 #[.string (bs l)] W fun e w' => e = .returned (.tuple #[.int .i64 X, .bool H, .int .i64 0]) ∧ Below W.heap.size W w') := P1
                have Q2 : Hid (∀ W : World, Calls Tryd.prog 12 #[.string (bs (f kk))] W fun e w' => e = .returned (.tuple #[.int .i64 X, .bool H, .int .i64 0]) ∧ Below W.heap.size W w') := P2
                clear P1 P2 r1 r2 r3 r4 hE0 hf
                go_enter Tryd.func7, Tryd.ntmps7
                go_wp2_with fail
                refine (dawake_any _).mono ?_
                rintro e w1 ⟨rfl, W1⟩
                go_wp2_with fail
                refine (P0.out _).mono ?_
                rintro e w2 ⟨rfl, hb⟩
                have W2 := bchain W1 hb
                clear hb W1 P0
                go_wp2
                go_loopw [9, 58] (fun s9 s58 wr => ∃ j : Nat, j ≤ kk ∧ s9 = .string (bs (f j)) ∧ s58 = .int .i64 (j : Int) ∧ Below w.heap.size w wr) (fun _ s58 _ => kk - (intOf s58).toNat)
                case atStart => exact ⟨0, by omega, by rw [HF0.out], rfl, W2⟩
                case round =>
                  clear W2
                  obtain ⟨j, hj, rfl, rfl, hW⟩ := hrel
                  by_cases hlt : (j : Int) < (kk : Int)
                  · have zj := bs_size (f j)
                    have hlj := HFL.out j hj
                    have HN : Hid (bs (f j) ++ ByteArray.mk #[48] = bs (f (j + 1))) := HFS.out j
                    have z48 : (ByteArray.mk #[48]).size = 1 := rfl
                    clear Q1 Q2
                    go_wp2
                    go_roundw
                    case rel => exact ⟨j + 1, by omega, by rw [← HN.out], by rw [show ((j + 1 : Nat) : Int) = (j : Int) + 1 by omega], hW⟩
                    case measure => simp [intOf]; omega
                  · obtain rfl : j = kk := by omega
                    have W9 := hW
                    clear hW
                    go_wp2_with fail
                    refine (Q1.out _).mono ?_
                    rintro e w3 ⟨rfl, hb⟩
                    have W3 := bchain W9 hb
                    clear hb W9 Q1
                    go_wp2_with fail
                    refine (Q2.out _).mono ?_
                    rintro e w4 ⟨rfl, hb⟩
                    have W4 := bchain W3 hb
                    clear hb W3 Q2
                    go_wp2
                    go_ret
                    exact ⟨rfl, W4⟩
end Go.Proofs.YtekdpeiemfppiaaDoor
