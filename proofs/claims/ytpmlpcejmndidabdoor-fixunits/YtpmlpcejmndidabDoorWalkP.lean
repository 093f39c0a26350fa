/-
  The contracts of words' noughts and side.
-/
import Derived.Test.YtpmlpcejmndidabDoorWalkO
set_option linter.unusedVariables false
set_option linter.unusedSimpArgs false
namespace Go.Proofs.YtpmlpcejmndidabDoor
open Go.RowKit

/-- How many of a word's lowest bits are nought, of 0 all. -/
def zc (x : Int) : Nat := if x = 0 then 64 else Lib.ctz 64 x.toNat
def cnt (v : Int) : Nat := if lo v = 0 then (if m3 v = 0 then 128 + zc (u3 v) else 64 + zc (m3 v)) else zc (lo v)
theorem zc_zero : zc 0 = 64 := rfl
theorem zc_word (x : Int) (x0 : 0 ≤ x) (x1 : x ≤ 18446744073709551615) (hx : x ≠ 0) : zc x < 64 ∧ x % 2 ^ zc x = 0 ∧ x / 2 ^ zc x % 2 = 1 := by
  obtain ⟨X, rfl⟩ := Int.eq_ofNat_of_zero_le x0
  have h := ctz_word X (by omega) (by omega)
  unfold zc
  rw [if_neg hx, Int.toNat_natCast]
  exact h
theorem zc_le (x : Int) (x0 : 0 ≤ x) (x1 : x ≤ 18446744073709551615) : zc x ≤ 64 := by
  by_cases hx : x = 0
  · subst hx; decide
  · have := (zc_word x x0 x1 hx).1; omega
theorem tz_all (x : Int) (x0 : 0 ≤ x) (x1 : x ≤ 18446744073709551615) (w : World) (hT : TabAt w) :
    Calls Tryd.prog 89 #[.int .u64 x] w fun e w' => e = .returned (.int .i64 (zc x : Int)) ∧ w' = w := by
  by_cases hx : x = 0
  · subst hx
    exact tz_zero w
  · obtain ⟨X, rfl⟩ := Int.eq_ofNat_of_zero_le x0
    obtain ⟨hlow, hk⟩ := Lib.lowest_bit 64 X (by omega) (by show X < 18446744073709551616; omega)
    obtain ⟨hi, htab⟩ := Lib.deBruijn64_at _ hk
    unfold zc
    rw [if_neg hx, Int.toNat_natCast]
    refine tz_core X (Lib.ctz 64 X) _ w (beq_eq_false_iff_ne.2 (by omega)) (tz_key X _ (by omega) (by omega) hlow) hi hk ?_
    rw [hT _ hi, htab]
theorem nought_shift (V v : Int) (s k : Nat) (h : v = 2 ^ s * V) (h0 : V % 2 ^ k = 0) (h1 : V / 2 ^ k % 2 = 1) : v % 2 ^ (s + k) = 0 ∧ v / 2 ^ (s + k) % 2 = 1 := by
  have hp := pow_pos' s
  rw [h, Int.pow_add, Int.mul_emod_mul_of_pos _ _ (by omega), h0, Int.mul_zero, Int.mul_ediv_mul_of_pos _ _ (by omega)]
  exact ⟨rfl, h1⟩
theorem emod_word (V : Int) (k : Nat) (hk : k ≤ 64) : V % 18446744073709551616 % 2 ^ k = V % 2 ^ k :=
  Int.emod_emod_of_dvd _ (by rw [← pow_split k hk]; exact Int.dvd_mul_right _ _)
theorem cnt_spec (v : Int) : Nought v (cnt v) := by
  have e2 : v / 340282366920938463463374607431768211456 = v / 18446744073709551616 / 18446744073709551616 := by omega
  unfold cnt
  by_cases h0 : lo v = 0
  · rw [if_pos h0]
    by_cases h1 : m3 v = 0
    · rw [if_pos h1]
      by_cases h2 : u3 v = 0
      · rw [h2, zc_zero]
        refine ⟨by omega, ?_, by omega⟩
        show v % 6277101735386680763835789423207666416102355444464034512896 = 0
        unfold lo at h0
        unfold m3 at h1
        unfold u3 at h2
        omega
      · have hr := u3_rng v
        obtain ⟨z0, z1, z2⟩ := zc_word (u3 v) hr.1 hr.2 h2
        have y1 := emod_word (v / 340282366920938463463374607431768211456) (zc (u3 v)) (by omega)
        have y2 := mod_div_two (v / 340282366920938463463374607431768211456) (zc (u3 v)) z0
        have ev : v = 2 ^ 128 * (v / 340282366920938463463374607431768211456) := by
          show v = 340282366920938463463374607431768211456 * (v / 340282366920938463463374607431768211456)
          unfold lo at h0
          unfold m3 at h1
          omega
        have eu : v / 340282366920938463463374607431768211456 % 18446744073709551616 = u3 v := rfl
        rw [eu] at y1 y2
        obtain ⟨n1, n2⟩ := nought_shift _ v 128 (zc (u3 v)) ev (by rw [← y1]; exact z1) (by rw [← y2]; exact z2)
        exact ⟨by omega, n1, fun _ => n2⟩
    · rw [if_neg h1]
      have hr := m3_rng v
      obtain ⟨z0, z1, z2⟩ := zc_word (m3 v) hr.1 hr.2 h1
      have y1 := emod_word (v / 18446744073709551616) (zc (m3 v)) (by omega)
      have y2 := mod_div_two (v / 18446744073709551616) (zc (m3 v)) z0
      have ev : v = 2 ^ 64 * (v / 18446744073709551616) := by
        show v = 18446744073709551616 * (v / 18446744073709551616)
        unfold lo at h0
        omega
      have eu : v / 18446744073709551616 % 18446744073709551616 = m3 v := rfl
      rw [eu] at y1 y2
      obtain ⟨n1, n2⟩ := nought_shift _ v 64 (zc (m3 v)) ev (by rw [← y1]; exact z1) (by rw [← y2]; exact z2)
      exact ⟨by omega, n1, fun _ => n2⟩
  · rw [if_neg h0]
    obtain ⟨z0, z1, z2⟩ := zc_word (lo v) (lo_ge v) (lo_le v) h0
    have y1 := emod_word v (zc (lo v)) (by omega)
    have y2 := mod_div_two v (zc (lo v)) z0
    have eu : v % 18446744073709551616 = lo v := rfl
    rw [eu] at y1 y2
    exact ⟨by omega, by rw [← y1]; exact z1, fun _ => by rw [← y2]; exact z2⟩

set_option maxHeartbeats 1000000 in
theorem noughts_any (v : Int) (w : World) (hT : TabAt w) :
    Calls Tryd.prog 87 #[.agg #[.int .u64 (lo v), .int .u64 (m3 v), .int .u64 (u3 v)]] w fun e w' => e = .returned (.int .i64 (cnt v : Int)) ∧ Below w.heap.size w w' := by
  have TB := hT.later (bel1 w (.cells #[.int .u64 (lo v), .int .u64 (m3 v), .int .u64 (u3 v)] 98))
  have B := B3.new w (.int .u64 (lo v)) (.int .u64 (m3 v)) (.int .u64 (u3 v)) 98
  have W0 := bel1 w (.cells #[.int .u64 (lo v), .int .u64 (m3 v), .int .u64 (u3 v)] 98)
  have a0 := lo_ge v
  have a1 := lo_le v
  have b0 := m3_rng v
  have c0 := u3_rng v
  have za := zc_le (lo v) a0 a1
  have zb := zc_le (m3 v) b0.1 b0.2
  have zd := zc_le (u3 v) c0.1 c0.2
  have HC : Hid (cnt v = if lo v = 0 then (if m3 v = 0 then 128 + zc (u3 v) else 64 + zc (m3 v)) else zc (lo v)) := rfl
  have TA : Hid (∀ (W : World), TabAt W → Calls Tryd.prog 89 #[.int .u64 (lo v)] W fun e w' => e = .returned (.int .i64 (zc (lo v) : Int)) ∧ w' = W) := fun W h => tz_all (lo v) a0 a1 W h
  have TM : Hid (∀ (W : World), TabAt W → Calls Tryd.prog 89 #[.int .u64 (m3 v)] W fun e w' => e = .returned (.int .i64 (zc (m3 v) : Int)) ∧ w' = W) := fun W h => tz_all (m3 v) b0.1 b0.2 W h
  have TU : Hid (∀ (W : World), TabAt W → Calls Tryd.prog 89 #[.int .u64 (u3 v)] W fun e w' => e = .returned (.int .i64 (zc (u3 v) : Int)) ∧ w' = W) := fun W h => tz_all (u3 v) c0.1 c0.2 W h
  generalize cnt v = N at *
  go_enter Tryd.func87, Tryd.ntmps87
  go_wp2
  generalize w.alloc (.cells #[.int .u64 (lo v), .int .u64 (m3 v), .int .u64 (u3 v)] 98) = w1 at *
  have q0 := B.c0
  have q1 := B.c1
  have q2 := B.c2
  clear B
  generalize lo v = x0 at *
  generalize m3 v = x1 at *
  generalize u3 v = x2 at *
  go_loopw [3, 5] (fun c i wr => wr = w1 ∧ ((i = .int .i64 0 ∧ c = .int .i64 0) ∨ (i = .int .i64 1 ∧ c = .int .i64 64 ∧ Hid (x0 = 0)) ∨ (i = .int .i64 2 ∧ c = .int .i64 128 ∧ Hid (x0 = 0) ∧ Hid (x1 = 0)) ∨ (i = .int .i64 3 ∧ c = .int .i64 192 ∧ Hid (x0 = 0) ∧ Hid (x1 = 0) ∧ Hid (x2 = 0)))) (fun _ i _ => 3 - (intOf i).toNat)
  case atStart => exact ⟨rfl, .inl ⟨rfl, rfl⟩⟩
  case round =>
    obtain ⟨hw, hcase⟩ := hrel
    subst hw
    rcases hcase with ⟨rfl, rfl⟩ | ⟨rfl, rfl, hx0⟩ | ⟨rfl, rfl, hx0, hx1⟩ | ⟨rfl, rfl, hx0, hx1, hx2⟩
    · go_wp2_with fail
      refine (TA.out _ TB).mono ?_
      rintro e w2 ⟨rfl, hw2⟩
      subst hw2
      by_cases hz : x0 = 0
      · subst hz
        rw [zc_zero]
        go_wp2
        go_roundw
        case rel => exact ⟨by first | rfl | trivial, .inr (.inl ⟨rfl, rfl, trivial⟩)⟩
        case measure => simp [intOf]
      · have hzb : (x0 == 0) = false := beq_eq_false_iff_ne.2 hz
        have HN : Hid (N = zc x0) := by show _ = _; rw [HC.out, if_neg hz]
        clear HC
        go_wp2
        go_ret
        exact ⟨by rw [HN.out]; rfl, W0⟩
    · have HN : Hid (x1 ≠ 0 → N = 64 + zc x1) := by intro h; rw [HC.out, if_pos hx0.out, if_neg h]
      go_wp2_with fail
      refine (TM.out _ TB).mono ?_
      rintro e w2 ⟨rfl, hw2⟩
      subst hw2
      by_cases hz : x1 = 0
      · subst hz
        rw [zc_zero]
        go_wp2
        go_roundw
        case rel => exact ⟨by first | rfl | trivial, .inr (.inr (.inl ⟨rfl, rfl, hx0, trivial⟩))⟩
        case measure => simp [intOf]
      · have hzb : (x1 == 0) = false := beq_eq_false_iff_ne.2 hz
        have HN2 : Hid ((N : Int) = 64 + (zc x1 : Int)) := by show _ = _; rw [HN.out hz]; omega
        clear HC HN
        go_wp2
        go_ret
        exact ⟨by rw [HN2.out]; rfl, W0⟩
    · have HN : Hid (N = 128 + zc x2) := by show _ = _; rw [HC.out, if_pos hx0.out, if_pos hx1.out]
      go_wp2_with fail
      refine (TU.out _ TB).mono ?_
      rintro e w2 ⟨rfl, hw2⟩
      subst hw2
      by_cases hz : x2 = 0
      · subst hz
        rw [zc_zero]
        go_wp2
        go_roundw
        case rel => exact ⟨by first | rfl | trivial, .inr (.inr (.inr ⟨rfl, rfl, hx0, hx1, trivial⟩))⟩
        case measure => simp [intOf]
      · have hzb : (x2 == 0) = false := beq_eq_false_iff_ne.2 hz
        have HN2 : Hid ((N : Int) = 128 + (zc x2 : Int)) := by show _ = _; rw [HN.out]; omega
        clear HC HN
        go_wp2
        go_ret
        exact ⟨by rw [HN2.out]; rfl, W0⟩
    · have HN : Hid (N = 192) := by show _ = _; rw [HC.out, if_pos hx0.out, if_pos hx1.out, hx2.out]; rfl
      go_wp2
      go_ret
      exact ⟨by rw [HN.out]; rfl, W0⟩

/-- Where the n lowest bits lie: below a half, at it, above it. -/
def sd (v : Int) (n : Nat) : Int := if n = 0 then -1 else c3 (v % 2 ^ n) (2 ^ (n - 1))
theorem wmod_succ (a : Int) (k : Nat) : a % 2 ^ (k + 1) = a / 2 ^ k % 2 * 2 ^ k + a % 2 ^ k := by
  have hp := pow_pos' k
  have e1 := Int.mul_ediv_add_emod a (2 ^ k)
  have e2 := Int.mul_ediv_add_emod (a / 2 ^ k) 2
  have m0 := Int.emod_nonneg a (show (2 : Int) ^ k ≠ 0 by omega)
  have m1 := Int.emod_lt_of_pos a (show (0 : Int) < 2 ^ k by omega)
  have e3 : a = (a / 2 ^ k % 2 * 2 ^ k + a % 2 ^ k) + 2 ^ (k + 1) * (a / 2 ^ k / 2) := by
    have h := congrArg (fun t => 2 ^ k * t) e2
    have h2 : (2 : Int) ^ k * (2 * (a / 2 ^ k / 2) + a / 2 ^ k % 2) = 2 ^ k * (a / 2 ^ k) := h
    have hs : (2 : Int) ^ k * 2 = 2 ^ (k + 1) := (Int.pow_succ 2 k).symm
    rw [Int.mul_add, ← Int.mul_assoc, hs, Int.mul_comm (2 ^ k) (a / 2 ^ k % 2)] at h2
    omega
  have b0 : a / 2 ^ k % 2 = 0 ∨ a / 2 ^ k % 2 = 1 := by omega
  have r0 : 0 ≤ a / 2 ^ k % 2 * 2 ^ k + a % 2 ^ k ∧ a / 2 ^ k % 2 * 2 ^ k + a % 2 ^ k < 2 ^ (k + 1) := by
    rw [pow_two]
    rcases b0 with h | h <;> rw [h] <;> omega
  have e4 := congrArg (fun t => t % (2 : Int) ^ (k + 1)) e3
  have e5 : a % 2 ^ (k + 1) = ((a / 2 ^ k % 2 * 2 ^ k + a % 2 ^ k) + 2 ^ (k + 1) * (a / 2 ^ k / 2)) % 2 ^ (k + 1) := e4
  rw [Int.add_mul_emod_self_left, Int.emod_eq_of_lt r0.1 r0.2] at e5
  exact e5
theorem bit_low (v : Int) (m k : Nat) (hk : k < m) (h : v % 2 ^ m = 0) : v / 2 ^ k % 2 = 0 := by
  obtain ⟨c, hc⟩ := Int.dvd_of_emod_eq_zero h
  have hp := pow_pos' k
  have e : (2 : Int) ^ m = 2 ^ k * (2 * 2 ^ (m - k - 1)) := by
    rw [show (2 : Int) * 2 ^ (m - k - 1) = 2 ^ (m - k - 1 + 1) by rw [Int.pow_succ, Int.mul_comm], ← Int.pow_add]; congr 1; omega
  rw [hc, e, Int.mul_assoc, Int.mul_ediv_cancel_left _ (by omega), Int.mul_assoc]
  exact Int.mul_emod_right _ _
theorem sd_bit0 (v : Int) (n : Nat) (n0 : 1 ≤ n) (h : v / 2 ^ (n - 1) % 2 = 0) : sd v n = -1 := by
  unfold sd
  rw [if_neg (by omega)]
  have hp := pow_pos' (n - 1)
  have m1 := Int.emod_lt_of_pos v (show (0 : Int) < 2 ^ (n - 1) by omega)
  have e := wmod_succ v (n - 1)
  rw [h, Int.zero_mul, Int.zero_add, show n - 1 + 1 = n by omega] at e
  rw [e]
  exact c3_lt _ _ m1
theorem sd_bit1 (v : Int) (n : Nat) (n0 : 1 ≤ n) (n1 : n ≤ 191) (h : v / 2 ^ (n - 1) % 2 = 1) : (cnt v = n - 1 ∧ sd v n = 0) ∨ (cnt v ≠ n - 1 ∧ sd v n = 1) := by
  obtain ⟨k0, k1, k2⟩ := cnt_spec v
  generalize cnt v = k at *
  unfold sd
  rw [if_neg (by omega)]
  have hp := pow_pos' (n - 1)
  have m0 := Int.emod_nonneg v (show (2 : Int) ^ (n - 1) ≠ 0 by omega)
  have e := wmod_succ v (n - 1)
  rw [h, Int.one_mul, show n - 1 + 1 = n by omega] at e
  rw [e]
  by_cases hz : v % 2 ^ (n - 1) = 0
  · refine .inl ⟨?_, by rw [hz, Int.add_zero]; exact c3_self _⟩
    rcases (show k < n - 1 ∨ k = n - 1 ∨ n - 1 < k by omega) with hk | hk | hk
    · have := bit_low v (n - 1) k hk hz
      have := k2 (by omega)
      omega
    · exact hk
    · have := bit_low v k (n - 1) hk k1
      omega
  · refine .inr ⟨?_, c3_gt _ _ (by omega)⟩
    intro hk
    rw [hk] at k1
    exact hz k1

set_option maxHeartbeats 1000000 in
theorem side_any (v : Int) (n : Nat) (n1 : n ≤ 191) (w : World) (hT : TabAt w) :
    Calls Tryd.prog 78 #[.agg #[.int .u64 (lo v), .int .u64 (m3 v), .int .u64 (u3 v)], .int .i64 (n : Int)] w fun e w' => e = .returned (.int .i64 (sd v n)) ∧ Below w.heap.size w w' := by
  have TB := hT.later (bel1 w (.cells #[.int .u64 (lo v), .int .u64 (m3 v), .int .u64 (u3 v)] 98))
  have B := B3.new w (.int .u64 (lo v)) (.int .u64 (m3 v)) (.int .u64 (u3 v)) 98
  have W0 := bel1 w (.cells #[.int .u64 (lo v), .int .u64 (m3 v), .int .u64 (u3 v)] 98)
  by_cases hn : n = 0
  · subst hn
    rw [show sd v 0 = -1 from rfl]
    go_enter Tryd.func78, Tryd.ntmps78
    go_wp2
    go_ret
    exact ⟨rfl, W0⟩
  · have hb := fun W => bit_any v (n - 1) ((n - 1) / 64) ((n - 1) % 64) (by omega) (by omega) (by omega) W
    rw [show ((n - 1 : Nat) : Int) = (n : Int) - 1 by omega] at hb
    have hnz : ((n : Int) == 0) = false := beq_eq_false_iff_ne.2 (by omega)
    have NO : Hid (∀ W : World, TabAt W → Calls Tryd.prog 87 #[.agg #[.int .u64 (lo v), .int .u64 (m3 v), .int .u64 (u3 v)]] W fun e w' => e = .returned (.int .i64 (cnt v : Int)) ∧ Below W.heap.size W w') := fun W h => noughts_any v W h
    rcases (show v / 2 ^ (n - 1) % 2 = 0 ∨ v / 2 ^ (n - 1) % 2 = 1 by omega) with h | h
    · rw [sd_bit0 v n (by omega) h]
      rw [h] at hb
      have HB : Hid (∀ W : World, Calls Tryd.prog 86 #[.agg #[.int .u64 (lo v), .int .u64 (m3 v), .int .u64 (u3 v)], .int .i64 ((n : Int) - 1)] W fun e w' => e = .returned (.int .u64 0) ∧ Below W.heap.size W w') := hb
      clear hb h
      go_enter Tryd.func78, Tryd.ntmps78
      go_wp2_with fail
      refine (HB.out _).mono ?_
      rintro e w1 ⟨rfl, hb1⟩
      have W1 := bchain W0 hb1
      clear hb1
      go_wp2
      go_ret
      exact ⟨rfl, W1⟩
    · have hs := sd_bit1 v n (by omega) n1 h
      rw [h] at hb
      have HB : Hid (∀ W : World, Calls Tryd.prog 86 #[.agg #[.int .u64 (lo v), .int .u64 (m3 v), .int .u64 (u3 v)], .int .i64 ((n : Int) - 1)] W fun e w' => e = .returned (.int .u64 1) ∧ Below W.heap.size W w') := hb
      clear hb h
      have hcl : cnt v ≤ 192 := (cnt_spec v).le
      rcases hs with ⟨hc, hs⟩ | ⟨hc, hs⟩
      · rw [hs]
        have hce : ((cnt v : Int) == (n : Int) - 1) = true := beq_iff_eq.2 (by omega)
        have HCE : Hid ((cnt v : Int) = (n : Int) - 1) := by show _ = _; omega
        clear hs hc
        go_enter Tryd.func78, Tryd.ntmps78
        go_wp2_with fail
        refine (HB.out _).mono ?_
        rintro e w1 ⟨rfl, hb1⟩
        have W1 := bchain W0 hb1
        have B1 := B.later hb1
        have T1 := TB.later hb1
        have q0 := B1.c0
        have q1 := B1.c1
        have q2 := B1.c2
        clear hb1 B TB
        go_wp2_with fail
        refine (NO.out _ T1).mono ?_
        rintro e w2 ⟨rfl, hb2⟩
        have W2 := bchain W1 hb2
        clear hb2
        go_wp2
        go_ret
        exact ⟨rfl, W2⟩
      · rw [hs]
        have hce : ((cnt v : Int) == (n : Int) - 1) = false := beq_eq_false_iff_ne.2 (by omega)
        clear hs hc
        go_enter Tryd.func78, Tryd.ntmps78
        go_wp2_with fail
        refine (HB.out _).mono ?_
        rintro e w1 ⟨rfl, hb1⟩
        have W1 := bchain W0 hb1
        have B1 := B.later hb1
        have T1 := TB.later hb1
        have q0 := B1.c0
        have q1 := B1.c1
        have q2 := B1.c2
        clear hb1 B TB
        go_wp2_with fail
        refine (NO.out _ T1).mono ?_
        rintro e w2 ⟨rfl, hb2⟩
        have W2 := bchain W1 hb2
        clear hb2
        go_wp2
        go_ret
        exact ⟨rfl, W2⟩
end Go.Proofs.YtpmlpcejmndidabDoor
