/-
  RandOnce: of all numbers below n no two go to one place, and each is found again from where it went.
-/
import Derived.Test.YtoojakjbpbjeaabLawRP
import Derived.Test.YtoojakjbpbjeaabLawRO
set_option linter.unusedVariables false
set_option linter.unusedSimpArgs false
namespace Go.Proofs.Ytoojakjbpbjeaab
open Go.RowKit

set_option maxRecDepth 100000 in
set_option maxHeartbeats 8000000 in
theorem randOnce_any (V : Rand1) (V2 : Rand2) (s : Nat) (a b c n : Int) (hk : Ky s a b c) (w : World) (hV : RT w) :
    Calls Try.prog 3 #[.agg #[.int .u64 (s : Int), .int .i64 a, .int .i64 b, .int .i64 c], .int .i64 n] w fun e w' => e = .returned (.bool true) ∧ Below w.heap.size w w' := by
  have HA : Hid (∀ W : World, Below w.heap.size w W → Calls Try.prog 4 #[] W fun e w' => e = .returned (.bool true) ∧ Below W.heap.size W w') := fun W hb => rawake_any V W (hV.later hb)
  have K0 : K4 w.heap.size (.int .u64 (s : Int)) (.int .i64 a) (.int .i64 b) (.int .i64 c) (w.alloc (.cells #[.int .u64 (s : Int), .int .i64 a, .int .i64 b, .int .i64 c] 24)) := ⟨by simp [go_sem], by simp [go_sem], by simp [go_sem], by simp [go_sem]⟩
  have B0 : Hid (Below w.heap.size w (w.alloc (.cells #[.int .u64 (s : Int), .int .i64 a, .int .i64 b, .int .i64 c] 24))) := bel1 w _
  go_enter Try.func3, Try.ntmps3
  go_upto_region 1 with fail
  generalize w.alloc (.cells #[.int .u64 (s : Int), .int .i64 a, .int .i64 b, .int .i64 c] 24) = w1 at *
  go_wp2_with fail
  refine (HA.out _ B0.out).mono ?_
  rintro e w2 ⟨rfl, hb⟩
  have B2' : Hid (Below w.heap.size w w2) := bchain B0.out hb
  have K2 := K0.later hb
  clear hb B0 K0 HA
  have c0 := K2.c0
  have c1 := K2.c1
  have c2 := K2.c2
  have c3 := K2.c3
  rcases (show (n < 1) ∨ (¬ n < 1 ∧ 200 < n) ∨ (1 ≤ n ∧ n ≤ 200) by omega) with h1 | ⟨h1, h2⟩ | ⟨h1, h2⟩
  · clear V V2
    go_wp2
    go_ret
    exact ⟨rfl, B2'.out⟩
  · clear V V2
    go_wp2
    go_ret
    exact ⟨rfl, B2'.out⟩
  · obtain ⟨N, rfl⟩ : ∃ N : Nat, n = (N : Int) := ⟨n.toNat, by omega⟩
    have n1 : ¬ (200 : Int) < (N : Int) := by omega
    have n2 : ¬ (N : Int) < 1 := by omega
    have hN : N ≤ 200 := by omega
    have hN1 : 1 ≤ N := by omega
    clear h1 h2
    have HP : Hid (∀ (i : Nat) (W : World), i < N → Below w.heap.size w W → Calls Try.prog 5 #[.agg #[.int .u64 (s : Int), .int .i64 a, .int .i64 b, .int .i64 c], .int .i64 (N : Int), .int .i64 (i : Int)] W fun e w' => ∃ x : Nat, e = .returned (.tuple #[.int .i64 (x : Int), .int .i64 0]) ∧ Goes s a b c N i x ∧ Below W.heap.size W w') := fun i W hi hb => V2.place s a b c N i W hk hN1 (by omega) hi (hV.later hb)
    have HB : Hid (∀ (j : Nat) (W : World), j < N → Below w.heap.size w W → Calls Try.prog 6 #[.agg #[.int .u64 (s : Int), .int .i64 a, .int .i64 b, .int .i64 c], .int .i64 (N : Int), .int .i64 (j : Int)] W fun e w' => ∃ x : Nat, e = .returned (.tuple #[.int .i64 (x : Int), .int .i64 0]) ∧ Comes s a b c N j x ∧ Below W.heap.size W w') := fun j W hj hb => V2.back s a b c N j W hk hN1 (by omega) hj (hV.later hb)
    have HK : Hid (K4 w.heap.size (.int .u64 (s : Int)) (.int .i64 a) (.int .i64 b) (.int .i64 c) w2) := K2
    clear V V2 c0 c1 c2 c3 K2
    have hmk := make_bl N (by omega)
    have hR0 : Hid (Rw w2.heap.size N (fun _ => .bool false) (w2.alloc (.cells (madeCells #[.bool false] N) 4))) := Rw.made w2 (.bool false) N 4
    have hb4 : Hid (Below w2.heap.size w2 (w2.alloc (.cells (madeCells #[.bool false] N) 4))) := bel1 _ _
    go_upto_region 7 with fail
    generalize w2.alloc (.cells (madeCells #[.bool false] N) 4) = w4 at *
    clear hmk
    go_loopw [22] (fun si wr => ∃ (j : Nat) (g : Nat → Bool), j ≤ N ∧ si = .int .i64 (j : Int) ∧ Hid (Rw w2.heap.size N (fun q => .bool (g q)) wr) ∧ Hid (∀ q, g q = true → ∃ k, k < j ∧ Goes s a b c N k q) ∧ Hid (Below w2.heap.size w2 wr)) (fun si _ => N - (intOf si).toNat)
    case atStart => exact ⟨0, fun _ => false, by omega, rfl, hR0, fun q h => (by cases h), hb4⟩
    case round =>
      obtain ⟨j, g, hj, rfl, hR, hS, hW⟩ := hrel
      by_cases hlt : j < N
      · have hjI : (j : Int) < (N : Int) := by omega
        have kc := HK.out.later hW.out
        have c0 := kc.c0
        have c1 := kc.c1
        have c2 := kc.c2
        have c3 := kc.c3
        have CP : Hid (Calls Try.prog 5 #[.agg #[.int .u64 (s : Int), .int .i64 a, .int .i64 b, .int .i64 c], .int .i64 (N : Int), .int .i64 (j : Int)] wr fun e w' => ∃ x : Nat, e = .returned (.tuple #[.int .i64 (x : Int), .int .i64 0]) ∧ Goes s a b c N j x ∧ Below wr.heap.size wr w') := HP.out j wr hlt (bchain B2'.out hW.out)
        go_wp2_with fail
        refine CP.out.mono ?_
        rintro e w5 ⟨x, rfl, hG, hb⟩
        have hxN : x < N := hG.lt
        have hgx : g x = false := by
          cases h : g x
          · rfl
          · obtain ⟨k, hk1, hk2⟩ := hS.out x h
            have := (hk2.comes (by omega)).one (hG.comes hlt)
            omega
        have HR5 : Hid (Rw w2.heap.size N (fun q => .bool (g q)) w5) := hR.out.later hb
        have HW5 : Hid (Below w2.heap.size w2 w5) := bchain hW.out hb
        have cS : w5.cell? ⟨w2.heap.size, x, none⟩ = some (.bool false) := by have h := HR5.out.c x hxN; rw [hgx] at h; exact h
        have fS := HR5.out.f x hxN
        have HR6 : Hid (Rw w2.heap.size N (fun q => .bool (if q = x then true else g q)) (w5.setCell ⟨w2.heap.size, x, none⟩ (.bool true))) := (HR5.out.set x (.bool true)).congr (fun q hq => by split <;> rfl)
        have HW6 : Hid (Below w2.heap.size w2 (w5.setCell ⟨w2.heap.size, x, none⟩ (.bool true))) := HW5.out.setCell (Nat.le_refl _) _
        have HS6 : Hid (∀ q, (if q = x then true else g q) = true → ∃ k, k < j + 1 ∧ Goes s a b c N k q) := fun q h => by
          by_cases e : q = x
          · subst e; exact ⟨j, by omega, hG⟩
          · rw [if_neg e] at h
            obtain ⟨k, h1, h2⟩ := hS.out q h
            exact ⟨k, by omega, h2⟩
        have HG : Hid (Goes s a b c N j x) := hG
        have CB : Hid (Calls Try.prog 6 #[.agg #[.int .u64 (s : Int), .int .i64 a, .int .i64 b, .int .i64 c], .int .i64 (N : Int), .int .i64 (x : Int)] (w5.setCell ⟨w2.heap.size, x, none⟩ (.bool true)) fun e w' => ∃ y : Nat, e = .returned (.tuple #[.int .i64 (y : Int), .int .i64 0]) ∧ Comes s a b c N x y ∧ Below (w5.setCell ⟨w2.heap.size, x, none⟩ (.bool true)).heap.size (w5.setCell ⟨w2.heap.size, x, none⟩ (.bool true)) w') := HB.out x _ hxN (bchain B2'.out HW6.out)
        have kd := HK.out.later HW6.out
        have d0 := kd.c0
        have d1 := kd.c1
        have d2 := kd.c2
        have d3 := kd.c3
        have x0 : ¬ (x : Int) < 0 := by omega
        have x1' : ¬ (N : Int) ≤ (x : Int) := by omega
        have x2' : (x : Int) < (N : Int) := by omega
        clear hG hgx c0 c1 c2 c3 kc kd CP hR hS hW hb HR5 HW5
        go_upto_region 13 with fail
        clear cS fS
        generalize w5.setCell ⟨w2.heap.size, x, none⟩ (.bool true) = w6 at *
        go_wp2_with fail
        refine CB.out.mono ?_
        rintro e w7 ⟨y, rfl, hC, hb⟩
        obtain rfl : y = j := hC.one (HG.out.comes hlt)
        have HR7 : Hid (Rw w2.heap.size N (fun q => .bool (if q = x then true else g q)) w7) := HR6.out.later hb
        have HW7 : Hid (Below w2.heap.size w2 w7) := bchain HW6.out hb
        have eyy : (((y : Nat) : Int) != (y : Int)) = false := by simp
        clear hC hb HR6 HW6 CB d0 d1 d2 d3
        go_wp2
        go_roundw
        case rel => exact ⟨y + 1, _, by omega, by go_num, HR7, HS6, HW7⟩
        case measure => simp [intOf]; omega
      · have hjI : ¬ (j : Int) < (N : Int) := by omega
        have HX : Hid (Below w.heap.size w wr) := bchain B2'.out hW.out
        go_wp2
        go_ret
        exact ⟨rfl, HX.out⟩
end Go.Proofs.Ytoojakjbpbjeaab
