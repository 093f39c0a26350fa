/-
  The contracts of regattaref01's Root and of the law's long.
-/
import Derived.Test.YtpmidldnomleoabRWalkH
set_option linter.unusedVariables false
set_option linter.unusedSimpArgs false
namespace Go.Proofs.Ytpmidldnomleoab
open Go.RowKit

theorem inr_192 (x : Int) (x0 : -3138550867693340381917894711603833208051177722232017256448 ≤ x) (x1 : x ≤ 3138550867693340381917894711603833208051177722232017256447) : InR 192 x := by
  unfold InR
  rw [show (2 : Int) ^ (192 - 1) = 3138550867693340381917894711603833208051177722232017256448 from rfl]
  omega

set_option maxHeartbeats 400000 in
theorem long_any (x : Int) (w : World) :
    Calls Try.prog 11 #[.agg #[.int .i64 (t3 x), .int .u64 (m3 x), .int .u64 (lo x)]] w fun e w' => ∃ v, e = .returned v ∧ w'.ownsRow w.heap.size 3 1 v 192 ((bl 192 x).map (Value.int .i64)) ∧ Below w.heap.size w w' := by
  go_enter Try.func11, Try.ntmps11
  go_wp2_with fail
  refine (word_any (w.heap.size + 1) 3 x (by omega) _ ?_).mono ?_
  · intro i hi2
    rcases (show i = 0 ∨ i = 1 ∨ i = 2 by omega) with rfl | rfl | rfl
    · rw [show x / 2 ^ (64 * 0) = x by rw [Nat.mul_zero, Int.pow_zero, Int.ediv_one]]
      simp [go_sem, u64_wrap]
    · simp [go_sem]
      rw [IntKind.wrap_u64]
      unfold m3
      show _ = x / 18446744073709551616 % 18446744073709551616
      omega
    · simp [go_sem]
      rw [IntKind.wrap_u64, IntKind.wrap_u64]
      unfold t3
      show _ = x / 340282366920938463463374607431768211456 % 18446744073709551616
      omega
  · rintro e w1 ⟨v, rfl, hown, hb⟩
    have W1 : Below w.heap.size w w1 := (bel2 w _ _).trans (hb.mono (by simp; omega))
    have O1 := own_base hown (base' := w.heap.size) (by simp; omega)
    clear hown hb
    go_wp2
    go_ret
    exact ⟨_, rfl, O1, W1⟩

theorem shl_i64 (k : Nat) (hk : k ≤ 62) : (1 : Int) ≤ 2 ^ k ∧ (2 : Int) ^ k ≤ 4611686018427387904 := by
  have h := pow_pos' k
  have h2 : (2 : Nat) ^ k ≤ 2 ^ 62 := Nat.pow_le_pow_right (by omega) hk
  have h3 : (((2 : Nat) ^ k : Nat) : Int) ≤ (((2 : Nat) ^ 62 : Nat) : Int) := by omega
  rw [Int.natCast_pow, Int.natCast_pow] at h3
  exact ⟨by omega, h3⟩

set_option maxRecDepth 100000 in
set_option maxHeartbeats 2000000 in
theorem rroot_any (va : Value) (a : Int) (a0 : -3138550867693340381917894711603833208051177722232017256448 ≤ a) (a1 : a ≤ 3138550867693340381917894711603833208051177722232017256447) (w : World) (hA : Bt w va 192 a) :
    Calls Try.prog 10 #[va] w fun e w' => e = .returned (.tuple #[.int .i64 (if a < 0 then 0 else if 85070591730234615865843651857942052864 ≤ a then 9223372036854775807 else rt a), .bool (if a < 0 then true else if 85070591730234615865843651857942052864 ≤ a then true else false)]) ∧ Below w.heap.size w w' := by
  have ra := inr_192 a a0 a1
  have BA := fun W h => rbelow_any va 192 a (by omega) (by omega) ra W h
  obtain ⟨g1, cap1, rfl, p1, p2, ha⟩ := id hA
  unfold maxLen at p2
  clear ha
  generalize hX : (if a < 0 then (0 : Int) else if 85070591730234615865843651857942052864 ≤ a then 9223372036854775807 else rt a) = X
  generalize hY : (if a < 0 then true else if 85070591730234615865843651857942052864 ≤ a then true else false) = Y
  have HX : Hid ((if a < 0 then (0 : Int) else if 85070591730234615865843651857942052864 ≤ a then 9223372036854775807 else rt a) = X) := hX
  have HY : Hid ((if a < 0 then true else if 85070591730234615865843651857942052864 ≤ a then true else false) = Y) := hY
  clear hX hY
  by_cases hn : a < 0
  · obtain rfl : X = 0 := by rw [← HX.out, if_pos hn]
    obtain rfl : Y = true := by rw [← HY.out, if_pos hn]
    rw [decide_eq_true hn] at BA
    have BA' : Hid (∀ W : World, Bt W (.slice (some ⟨g1, 0, none⟩) 192 cap1) 192 a → Calls Try.prog 24 #[.slice (some ⟨g1, 0, none⟩) 192 cap1] W fun e w' => e = .returned (.bool true) ∧ w' = W) := BA
    clear BA hn
    go_enter Try.func10, Try.ntmps10
    go_wp2_with fail
    refine (BA'.out _ hA).mono ?_
    rintro e w1 ⟨rfl, hw⟩
    subst hw
    go_wp2
    go_ret2
    exact ⟨rfl, Below.refl _ _⟩
  · rw [decide_eq_false hn] at BA
    have BA' : Hid (∀ W : World, Bt W (.slice (some ⟨g1, 0, none⟩) 192 cap1) 192 a → Calls Try.prog 24 #[.slice (some ⟨g1, 0, none⟩) 192 cap1] W fun e w' => e = .returned (.bool false) ∧ w' = W) := BA
    clear BA
    have rT : InR 192 (1 * 2 ^ 126) := by show InR 192 85070591730234615865843651857942052864; exact inr_192 _ (by omega) (by omega)
    go_enter Try.func10, Try.ntmps10
    go_wp2_with fail
    refine (BA'.out _ hA).mono ?_
    rintro e w1 ⟨rfl, hw⟩
    subst hw
    clear BA'
    go_wp2_with fail
    refine (int_any 1 192 (by omega) (by omega) (by omega) _).mono ?_
    rintro e w2 ⟨v2, rfl, hown, hb⟩
    have O2 := bt_own hown (by omega)
    have A2 := hA.later hb
    have W2 : Below w1.heap.size w1 w2 := hb
    clear hown hb hA
    go_wp2_with fail
    refine (rshl_any v2 192 126 _ (by omega) (by omega) (by omega) _ O2).mono ?_
    rintro e w3 ⟨v3, rfl, hown, hb⟩
    have T3 := bt_own hown (by omega)
    have A3 := A2.later hb
    have W3 := bchain W2 hb
    clear hown hb A2 W2 O2
    go_wp2_with fail
    refine (rcmp_any _ _ 192 _ _ (by omega) (by omega) ra rT _ A3 T3).mono ?_
    rintro e w4 ⟨rfl, hb⟩
    have A4 := A3.later hb
    have W4 := bchain W3 hb
    clear hb A3 W3 T3 rT
    rw [show (1 : Int) * 2 ^ 126 = 85070591730234615865843651857942052864 from rfl]
    by_cases hbig : 85070591730234615865843651857942052864 ≤ a
    · obtain rfl : X = 9223372036854775807 := by rw [← HX.out, if_neg (by omega), if_pos hbig]
      obtain rfl : Y = true := by rw [← HY.out, if_neg (by omega), if_pos hbig]
      have hc : 0 ≤ c3 a 85070591730234615865843651857942052864 := by unfold c3; rw [if_neg (by omega)]; split <;> omega
      generalize c3 a 85070591730234615865843651857942052864 = c at *
      go_wp2
      go_ret2
      exact ⟨rfl, W4⟩
    · have HX2 : Hid (X = rt a) := by show X = rt a; rw [← HX.out, if_neg (by omega), if_neg (by omega)]
      obtain rfl : Y = false := by rw [← HY.out, if_neg (by omega), if_neg (by omega)]
      have hc : c3 a 85070591730234615865843651857942052864 = -1 := c3_lt _ _ (by omega)
      rw [hc]
      clear hc
      go_wp2_with fail
      go_loopw [5, 6] (fun r k wr => (∃ x : Int, r = .int .i64 x ∧ ((∃ s : Nat, s ≤ 62 ∧ k = .int .i64 (s : Int) ∧ Hid (rt a = rtA a (s + 1) x) ∧ RtI a (s + 1) x) ∨ (k = .int .i64 (-1) ∧ Hid (rt a = x)))) ∧ Below w1.heap.size w1 wr ∧ Bt wr (.slice (some ⟨g1, 0, none⟩) 192 cap1) 192 a) (fun _ k _ => (intOf k + 1).toNat)
      case atStart => exact ⟨⟨0, rfl, .inl ⟨62, by omega, rfl, rfl, RtI.start a (by omega) (by omega)⟩⟩, W4, A4⟩
      case round =>
        obtain ⟨⟨x, rfl, hrel⟩, hW, hA⟩ := hrel
        clear W4 A4
        rcases hrel with ⟨s, hs, rfl, hrt, hI⟩ | ⟨rfl, hrt⟩
        · have h0I : (0 : Int) ≤ (s : Int) := by omega
          obtain ⟨hp0, hp1⟩ := shl_i64 s hs
          have hp2 := pow_two s
          have hx1 := hI.top
          have hx0 := hI.low
          obtain ⟨n, hn2⟩ : ∃ n, x + 2 ^ s = n := ⟨_, rfl⟩
          have HN : Hid (x + 2 ^ s = n) := hn2
          have n0 : 0 ≤ n := by omega
          have n1 : n ≤ 9223372036854775807 := by omega
          have e1 : wrap64 (2 ^ s) = 2 ^ s := by rw [w64, sg_id _ (by omega) (by omega)]
          have e2 : IntKind.i64.wrap (2 ^ s) = 2 ^ s := by rw [IntKind.wrap_i64]; omega
          obtain ⟨s0, s1⟩ := sq_rng n n0 (by omega)
          have rn := inr_192 (n * n) (by omega) (by omega)
          have MU : Hid (∀ W : World, Calls Try.prog 28 #[.int .i64 n, .int .i64 n, .int .i64 (192 : Nat)] W fun e w' => ∃ v, e = .returned v ∧ Bt w' v 192 (n * n) ∧ Below W.heap.size W w') := fun W => rmul_any n n 192 (by omega) n1 (by omega) n1 (by omega) (by omega) W
          have hle : (n * n ≤ a ∧ c3 (n * n) a ≤ 0) ∨ (¬ n * n ≤ a ∧ 0 < c3 (n * n) a) := by
            unfold c3
            by_cases h : n * n ≤ a
            · refine .inl ⟨h, ?_⟩
              split
              · omega
              · split <;> omega
            · refine .inr ⟨h, ?_⟩
              rw [if_neg (by omega), if_pos (by omega)]
              omega
          clear hp2 hx1 hx0
          go_wp2_with fail
          refine (MU.out _).mono ?_
          rintro e w5 ⟨v5, rfl, N5, hb⟩
          have A5 := hA.later hb
          have W5 := bchain hW hb
          clear hb hA hW MU
          go_wp2_with fail
          refine (rcmp_any _ _ 192 _ _ (by omega) (by omega) rn ra _ N5 A5).mono ?_
          rintro e w6 ⟨rfl, hb⟩
          have A6 := A5.later hb
          have W6 := bchain W5 hb
          clear hb A5 W5 N5
          have hst := hI.step
          have HRT : Hid (rt a = rtA a s (if (x + 2 ^ s) * (x + 2 ^ s) ≤ a then x + 2 ^ s else x)) := hrt
          rw [HN.out] at hst HRT
          clear hI hrt rn s0 s1 e1 e2 hp0 hp1
          rcases hle with ⟨hle, hc⟩ | ⟨hle, hc⟩
          · rw [if_pos hle] at hst HRT
            generalize c3 (n * n) a = c at *
            go_wp2
            go_roundw
            case rel =>
              refine ⟨⟨n, rfl, ?_⟩, W6, A6⟩
              by_cases hs0 : s = 0
              · subst hs0
                exact .inr ⟨rfl, HRT⟩
              · refine .inl ⟨s - 1, by omega, ?_, ?_, ?_⟩
                · rw [show ((s - 1 : Nat) : Int) = (s : Int) - 1 by omega]
                · rw [show s - 1 + 1 = s by omega]; exact HRT
                · rw [show s - 1 + 1 = s by omega]; exact hst
            case measure => first | (simp [intOf]; done) | (simp [intOf]; omega)
          · rw [if_neg (by omega)] at hst HRT
            generalize c3 (n * n) a = c at *
            go_wp2
            go_roundw
            case rel =>
              refine ⟨⟨x, rfl, ?_⟩, W6, A6⟩
              by_cases hs0 : s = 0
              · subst hs0
                exact .inr ⟨rfl, HRT⟩
              · refine .inl ⟨s - 1, by omega, ?_, ?_, ?_⟩
                · rw [show ((s - 1 : Nat) : Int) = (s : Int) - 1 by omega]
                · rw [show s - 1 + 1 = s by omega]; exact HRT
                · rw [show s - 1 + 1 = s by omega]; exact hst
            case measure => first | (simp [intOf]; done) | (simp [intOf]; omega)
        · go_wp2
          go_ret2
          exact ⟨by rw [HX2.out, hrt.out]; rfl, hW⟩
end Go.Proofs.Ytpmidldnomleoab
