/-
  The contract of regattaref05's Place.
-/
import Derived.Test.YtaifihfiompgaaaEWalkC
set_option linter.unusedVariables false
set_option linter.unusedSimpArgs false
namespace Go.Proofs.Ytaifihfiompgaaa
open Go.RowKit

theorem xor63 (a b : Nat) (ha : a < 9223372036854775808) (hb : b < 9223372036854775808) : bits .xor .i64 (a : Int) (b : Int) = ((a ^^^ b : Nat) : Int) := by
  have hx : a ^^^ b < 2 ^ 63 := Nat.xor_lt_two_pow (by omega) (by omega)
  have h1 : (BitVec.ofInt 64 (a : Int)).toNat = a := by
    rw [BitVec.ofInt_natCast, BitVec.toNat_ofNat]; exact Nat.mod_eq_of_lt (by omega)
  have h2 : (BitVec.ofInt 64 (b : Int)).toNat = b := by
    rw [BitVec.ofInt_natCast, BitVec.toNat_ofNat]; exact Nat.mod_eq_of_lt (by omega)
  show IntKind.i64.wrap ((BitVec.ofInt 64 (a : Int) ^^^ BitVec.ofInt 64 (b : Int)).toNat : Int) = _
  rw [BitVec.toNat_xor, h1, h2, IntKind.wrap_i64]
  omega
set_option maxRecDepth 100000 in
set_option maxHeartbeats 8000000 in
theorem refPlace_any (s : Nat) (a b c : Int) (n i : Nat) (hk : Ky s a b c) (n0 : 1 ≤ n) (n1 : n ≤ 65536) (hi : i < n) (w : World) :
    Calls Try.prog 22 #[.agg #[.int .u64 (s : Int), .int .i64 a, .int .i64 b, .int .i64 c], .int .i64 (n : Int), .int .i64 (i : Int)] w fun e w' => ∃ x : Nat, e = .returned (.int .i64 (x : Int)) ∧ Goes s a b c n i x ∧ Below w.heap.size w w' := by
  have HCW : Hid (∀ (q : Int) (W : World), -9223372036854775808 ≤ q → q ≤ 9223372036854775807 → Calls Try.prog 32 #[.agg #[.int .u64 (s : Int), .int .i64 a, .int .i64 b, .int .i64 c], .int .i64 q] W fun e w' => e = .returned (.int .u64 ((wdN s a b c q : Nat) : Int)) ∧ Below W.heap.size W w') := fun q W h1 h2 => refWord_any s a b c q hk h1 h2 W
  have Kc : K4 w.heap.size (.int .u64 (s : Int)) (.int .i64 a) (.int .i64 b) (.int .i64 c) (w.alloc (.cells #[.int .u64 (s : Int), .int .i64 a, .int .i64 b, .int .i64 c] 53)) := ⟨by simp [go_sem], by simp [go_sem], by simp [go_sem], by simp [go_sem]⟩
  have hB1 : Hid (Below w.heap.size w (w.alloc (.cells #[.int .u64 (s : Int), .int .i64 a, .int .i64 b, .int .i64 c] 53))) := bel1 w _
  clear hk
  go_enter Try.func22, Try.ntmps22
  go_upto_region 2 with fail
  generalize w.alloc (.cells #[.int .u64 (s : Int), .int .i64 a, .int .i64 b, .int .i64 c] 53) = w1 at *
  have HKc : Hid (K4 w.heap.size (.int .u64 (s : Int)) (.int .i64 a) (.int .i64 b) (.int .i64 c) w1) := Kc
  clear Kc
  go_loopw [7] (fun s7 wr => ∃ (k S : Nat), 1 ≤ k ∧ k ≤ 8 ∧ 2 ≤ S ∧ S ≤ 256 ∧ s7 = .int .i64 (S : Int) ∧ Hid (S = 2 ^ k) ∧ Hid (k = 1 ∨ 2 ^ (k - 1) * 2 ^ (k - 1) < n) ∧ wr = w1) (fun s7 _ => 512 - (intOf s7).toNat)
  case atStart => exact ⟨1, 2, by omega, by omega, by omega, by omega, rfl, rfl, Or.inl rfl, rfl⟩
  case round =>
    obtain ⟨k, S, k1, k8, S2, S256, rfl, HS, HP, rfl⟩ := hrel
    obtain ⟨P, hP⟩ : ∃ P, S * S = P := ⟨_, rfl⟩
    have hP1 : P ≤ 65536 := by rw [← hP]; exact Nat.mul_le_mul S256 S256
    have ePI : (S : Int) * (S : Int) = (P : Int) := by rw [← hP, Int.natCast_mul]
    by_cases hlt : P < n
    · have hlI : (P : Int) < (n : Int) := by omega
      have hk7 : k + 1 ≤ 8 := by
        rcases Nat.lt_or_ge k 8 with h | h
        · omega
        · obtain rfl : k = 8 := by omega
          have h2 : S = 256 := HS.out
          subst h2
          omega
      have HS2 : Hid (2 * S = 2 ^ (k + 1)) := by show _ = _; rw [Nat.pow_succ, HS.out]; omega
      have hS7 : 2 * S ≤ 256 := by
        rw [HS2.out]
        exact Nat.pow_le_pow_right (n := 2) (by omega) hk7
      have HP2 : Hid (k + 1 = 1 ∨ 2 ^ (k + 1 - 1) * 2 ^ (k + 1 - 1) < n) := Or.inr (by rw [Nat.add_sub_cancel, ← HS.out, hP]; exact hlt)
      clear hP HS HP
      go_wp2
      go_roundw
      case rel => exact ⟨k + 1, 2 * S, by omega, hk7, by omega, hS7, by go_num, HS2, HP2, trivial⟩
      case measure => simp [intOf]; omega
    · have hlI : ¬ (P : Int) < (n : Int) := by omega
      have HHf : Hid (Hf n k) := ⟨k1, by rw [← HS.out, hP]; omega, HP.out⟩
      obtain ⟨f, hf⟩ : ∃ f : Nat → Nat → Nat, f = rfN s a b c S := ⟨_, rfl⟩
      have HfL : Hid (∀ t r, f t r < 2 ^ k) := fun t r => by rw [hf, ← HS.out]; exact rfN_lt _ _ _ _ _ _ _ (by omega)
      obtain ⟨M, M1, M2, M3, M4⟩ := gets_all (trp f S) (prt f S) n P i (fun x hx => by rw [HS.out, ← hP, HS.out] at *; exact trp_lt f k HfL.out x hx) (fun x hx => by rw [HS.out, ← hP, HS.out] at *; exact prt_trp f k HfL.out x hx) (by omega) hi
      have HM : Hid (itr (trp f S) M i < n ∧ ∀ q, 1 ≤ q → q < M → n ≤ itr (trp f S) q i) := ⟨M3, M4⟩
      have HLt : Hid (∀ m, itr (trp f S) m i < P) := fun m => itr_lt (trp f S) P (fun x hx => by rw [HS.out, ← hP, HS.out] at *; exact trp_lt f k HfL.out x hx) i (by omega) m
      have HGo : Hid (∀ x, Gets (trp f S) n i x → Goes s a b c n i x) := fun x h => ⟨k, HHf.out, by rw [hf, HS.out] at h; exact h⟩
      have HfW : Hid (∀ t r : Nat, f t r = wdN s a b c (1024 * (t : Int) + (r : Int)) % S) := fun t r => by rw [hf]; rfl
      have HPP : Hid (S * S = P) := hP
      clear hf M3 M4 HHf HP hP
      go_upto_region 6 with fail
      clear ePI hlI hlt
      have hS0 : ¬ (S : Int) = 0 := by omega
      go_loopw [8, 9] (fun s8 s9 wo => ∃ (m x : Nat), m ≤ M ∧ s8 = .int .i64 (x : Int) ∧ s9 = .int .i64 (m : Int) ∧ Hid (itr (trp f S) m i = x) ∧ Hid (Below wr.heap.size wr wo)) (fun _ s9 _ => M - (intOf s9).toNat)
      case atStart => exact ⟨0, i, by omega, rfl, rfl, rfl, Below.refl _ _⟩
      case round =>
        rename World => wo
        obtain ⟨m, x, hm, rfl, rfl, hx, hWo⟩ := hrel
        have hxP : x < P := by rw [← hx.out]; exact HLt.out m
        by_cases hgo : m = 0 ∨ n ≤ x
        · have hmM : m < M := by
            rcases hgo with h | h
            · omega
            · rcases Nat.lt_or_ge m M with h2 | h2
              · exact h2
              · obtain rfl : m = M := by omega
                have h3 := HM.out.1
                rw [hx.out] at h3
                omega
          have q1 : ((x : Nat) : Int).tdiv (S : Int) = ((x / S : Nat) : Int) := by rw [Int.tdiv_eq_ediv_of_nonneg (by omega), Int.natCast_ediv]
          have q2 : ((x : Nat) : Int).tmod (S : Int) = ((x % S : Nat) : Int) := by rw [Int.tmod_eq_emod_of_nonneg (by omega), Int.natCast_emod]
          have q3 : (x : Int) / (S : Int) = ((x / S : Nat) : Int) := by rw [Int.natCast_ediv]
          have q4 : (x : Int) % (S : Int) = ((x % S : Nat) : Int) := by rw [Int.natCast_emod]
          have lr : x / S < S ∧ x % S < S := ⟨Nat.div_lt_of_lt_mul (by rw [HPP.out]; exact hxP), Nat.mod_lt _ (by omega)⟩
          obtain ⟨l0, hl0⟩ : ∃ q, x / S = q := ⟨_, rfl⟩
          obtain ⟨r0, hr0⟩ : ∃ q, x % S = q := ⟨_, rfl⟩
          rw [hl0] at q1 q3 lr
          rw [hr0] at q2 q4 lr
          have HT : Hid (∀ l r : Nat, rnds f 4 (l0, r0) = (l, r) → trp f S x = l * S + r) := fun l r h => by unfold trp; rw [hl0, hr0, h]
          have hl256 : l0 < 256 := by omega
          have hr256 : r0 < 256 := by omega
          clear hl0 hr0
          have hcond : Hid (m = 0 ∨ n ≤ x) := hgo
          have hxI : x ≤ 65536 := by omega
          by_cases hm0 : m = 0
          · have hmB : (((m : Nat) : Int) == 0) = true := by simp [hm0]
            replace hm0 : Hid (m = 0) := hm0
            clear hgo
            go_upto_region 11 with fail
            go_loopw [10, 11, 12] (fun s10 s11 s12 wi => ∃ (t l r : Nat), t ≤ 4 ∧ s10 = .int .i64 (l : Int) ∧ s11 = .int .i64 (r : Int) ∧ s12 = .int .i64 (t : Int) ∧ l < 256 ∧ r < 256 ∧ Hid (rnds f t (l0, r0) = (l, r)) ∧ Hid (l < S ∧ r < S) ∧ Hid (Below wr.heap.size wr wi)) (fun _ _ s12 _ => 4 - (intOf s12).toNat)
            case atStart => exact ⟨0, l0, r0, by omega, rfl, rfl, rfl, hl256, hr256, rfl, lr, hWo⟩
            case round =>
              rename World => wi
              obtain ⟨t, l, r, ht, rfl, rfl, rfl, hl, hr, hRn, hLR, hWi⟩ := hrel
              by_cases ht4 : t < 4
              · have htI : (t : Int) < 4 := by omega
                have kc := HKc.out.later hWi.out
                have c0 := kc.c0
                have c1 := kc.c1
                have c2 := kc.c2
                have c3 := kc.c3
                have CM : Hid (Calls Try.prog 32 #[.agg #[.int .u64 (s : Int), .int .i64 a, .int .i64 b, .int .i64 c], .int .i64 (1024 * (t : Int) + (r : Int))] wi fun e w' => e = .returned (.int .u64 ((wdN s a b c (1024 * (t : Int) + (r : Int)) : Nat) : Int)) ∧ Below wi.heap.size wi w') := HCW.out _ wi (by omega) (by omega)
                have hXl := wdN_lt s a b c (1024 * (t : Int) + (r : Int))
                have hfw := HfW.out t r
                obtain ⟨X, hX⟩ : ∃ X, wdN s a b c (1024 * (t : Int) + (r : Int)) = X := ⟨_, rfl⟩
                rw [hX] at CM hXl hfw
                have hfl := HfL.out t r
                have hS2 := HS.out
                obtain ⟨Mx, hMx⟩ : ∃ q, X % S = q := ⟨_, rfl⟩
                rw [hMx] at hfw
                have lM : Mx < 256 := by rw [← hMx]; exact Nat.lt_of_lt_of_le (Nat.mod_lt _ (by omega)) S256
                have hxs : l ^^^ Mx < S := by rw [hS2]; rw [hfw] at hfl; exact Nat.xor_lt_two_pow (by rw [← hS2]; exact hLR.out.1) hfl
                have wS : IntKind.u64.wrap (S : Int) = (S : Int) := by rw [IntKind.wrap_u64]; omega
                have w1' : (X : Int) % (S : Int) = (Mx : Int) := by rw [← hMx, Int.natCast_emod]
                have w2' : ((X : Nat) : Int).tmod (S : Int) = (Mx : Int) := by rw [Int.tmod_eq_emod_of_nonneg (by omega), w1']
                have wX := xor63 l Mx (by omega) (by omega)
                obtain ⟨Q, hQ⟩ : ∃ q, l ^^^ Mx = q := ⟨_, rfl⟩
                rw [hQ] at wX hxs
                have HRn2 : Hid (rnds f (t + 1) (l0, r0) = (r, Q)) := by show rnd1 f t (rnds f t (l0, r0)) = _; rw [hRn.out]; show (r, l ^^^ f t r) = _; rw [hfw, hQ]
                have HLR2 : Hid (r < S ∧ Q < S) := ⟨hLR.out.2, hxs⟩
                have hQ256 : Q < 256 := by omega
                clear hX hMx hfw hfl hS2 hxs hQ kc hRn hLR
                go_wp2_with fail
                refine CM.out.mono ?_
                rintro e wz ⟨rfl, hb⟩
                have HWz : Hid (Below wr.heap.size wr wz) := bchain hWi.out hb
                clear c0 c1 c2 c3 CM hb hWi
                go_wp2
                go_roundw
                case rel => exact ⟨t + 1, r, Q, by omega, rfl, rfl, by go_num, by omega, hQ256, HRn2, HLR2, HWz⟩
                case measure => simp [intOf]; omega
              · obtain rfl : t = 4 := by omega
                have hTx := HT.out l r hRn.out
                obtain ⟨Pl, hPl⟩ : ∃ q, l * S = q := ⟨_, rfl⟩
                have hPl2 : Pl ≤ 65536 := by rw [← hPl]; exact Nat.mul_le_mul (Nat.le_of_lt hl) S256
                have ePl : (l : Int) * (S : Int) = (Pl : Int) := by rw [← hPl, Int.natCast_mul]
                have HX2 : Hid (itr (trp f S) (m + 1) i = Pl + r) := by show trp f S (itr (trp f S) m i) = _; rw [hx.out, hTx, hPl]
                clear hTx hPl hRn hLR q1 q2 q3 q4
                go_wp2
                go_roundw
                case rel => exact ⟨m + 1, Pl + r, by omega, by go_num, by go_num, HX2, hWi⟩
                case measure => simp [intOf]; omega
          · have hmB : (((m : Nat) : Int) == 0) = false := by simp; omega
            have hge : (n : Int) ≤ (x : Int) := by omega
            clear hgo
            go_upto_region 11 with fail
            go_loopw [10, 11, 12] (fun s10 s11 s12 wi => ∃ (t l r : Nat), t ≤ 4 ∧ s10 = .int .i64 (l : Int) ∧ s11 = .int .i64 (r : Int) ∧ s12 = .int .i64 (t : Int) ∧ l < 256 ∧ r < 256 ∧ Hid (rnds f t (l0, r0) = (l, r)) ∧ Hid (l < S ∧ r < S) ∧ Hid (Below wr.heap.size wr wi)) (fun _ _ s12 _ => 4 - (intOf s12).toNat)
            case atStart => exact ⟨0, l0, r0, by omega, rfl, rfl, rfl, hl256, hr256, rfl, lr, hWo⟩
            case round =>
              rename World => wi
              obtain ⟨t, l, r, ht, rfl, rfl, rfl, hl, hr, hRn, hLR, hWi⟩ := hrel
              by_cases ht4 : t < 4
              · have htI : (t : Int) < 4 := by omega
                have kc := HKc.out.later hWi.out
                have c0 := kc.c0
                have c1 := kc.c1
                have c2 := kc.c2
                have c3 := kc.c3
                have CM : Hid (Calls Try.prog 32 #[.agg #[.int .u64 (s : Int), .int .i64 a, .int .i64 b, .int .i64 c], .int .i64 (1024 * (t : Int) + (r : Int))] wi fun e w' => e = .returned (.int .u64 ((wdN s a b c (1024 * (t : Int) + (r : Int)) : Nat) : Int)) ∧ Below wi.heap.size wi w') := HCW.out _ wi (by omega) (by omega)
                have hXl := wdN_lt s a b c (1024 * (t : Int) + (r : Int))
                have hfw := HfW.out t r
                obtain ⟨X, hX⟩ : ∃ X, wdN s a b c (1024 * (t : Int) + (r : Int)) = X := ⟨_, rfl⟩
                rw [hX] at CM hXl hfw
                have hfl := HfL.out t r
                have hS2 := HS.out
                obtain ⟨Mx, hMx⟩ : ∃ q, X % S = q := ⟨_, rfl⟩
                rw [hMx] at hfw
                have lM : Mx < 256 := by rw [← hMx]; exact Nat.lt_of_lt_of_le (Nat.mod_lt _ (by omega)) S256
                have hxs : l ^^^ Mx < S := by rw [hS2]; rw [hfw] at hfl; exact Nat.xor_lt_two_pow (by rw [← hS2]; exact hLR.out.1) hfl
                have wS : IntKind.u64.wrap (S : Int) = (S : Int) := by rw [IntKind.wrap_u64]; omega
                have w1' : (X : Int) % (S : Int) = (Mx : Int) := by rw [← hMx, Int.natCast_emod]
                have w2' : ((X : Nat) : Int).tmod (S : Int) = (Mx : Int) := by rw [Int.tmod_eq_emod_of_nonneg (by omega), w1']
                have wX := xor63 l Mx (by omega) (by omega)
                obtain ⟨Q, hQ⟩ : ∃ q, l ^^^ Mx = q := ⟨_, rfl⟩
                rw [hQ] at wX hxs
                have HRn2 : Hid (rnds f (t + 1) (l0, r0) = (r, Q)) := by show rnd1 f t (rnds f t (l0, r0)) = _; rw [hRn.out]; show (r, l ^^^ f t r) = _; rw [hfw, hQ]
                have HLR2 : Hid (r < S ∧ Q < S) := ⟨hLR.out.2, hxs⟩
                have hQ256 : Q < 256 := by omega
                clear hX hMx hfw hfl hS2 hxs hQ kc hRn hLR
                go_wp2_with fail
                refine CM.out.mono ?_
                rintro e wz ⟨rfl, hb⟩
                have HWz : Hid (Below wr.heap.size wr wz) := bchain hWi.out hb
                clear c0 c1 c2 c3 CM hb hWi
                go_wp2
                go_roundw
                case rel => exact ⟨t + 1, r, Q, by omega, rfl, rfl, by go_num, by omega, hQ256, HRn2, HLR2, HWz⟩
                case measure => simp [intOf]; omega
              · obtain rfl : t = 4 := by omega
                have hTx := HT.out l r hRn.out
                obtain ⟨Pl, hPl⟩ : ∃ q, l * S = q := ⟨_, rfl⟩
                have hPl2 : Pl ≤ 65536 := by rw [← hPl]; exact Nat.mul_le_mul (Nat.le_of_lt hl) S256
                have ePl : (l : Int) * (S : Int) = (Pl : Int) := by rw [← hPl, Int.natCast_mul]
                have HX2 : Hid (itr (trp f S) (m + 1) i = Pl + r) := by show trp f S (itr (trp f S) m i) = _; rw [hx.out, hTx, hPl]
                clear hTx hPl hRn hLR q1 q2 q3 q4
                go_wp2
                go_roundw
                case rel => exact ⟨m + 1, Pl + r, by omega, by go_num, by go_num, HX2, hWi⟩
                case measure => simp [intOf]; omega
        · have hm1 : 1 ≤ m := by omega
          have hxn : x < n := by omega
          have hmB : (((m : Nat) : Int) == 0) = false := by simp; omega
          have hge : ¬ (n : Int) ≤ (x : Int) := by omega
          have HG : Hid (Goes s a b c n i x) := HGo.out x ⟨m, hm1, hx.out, hxn, fun q q1 q2 => HM.out.2 q q1 (by omega)⟩
          have HX : Hid (Below w.heap.size w wo) := bchain hB1.out hWo.out
          clear hgo
          go_wp2
          go_ret
          exact ⟨x, rfl, HG.out, HX.out⟩
end Go.Proofs.Ytaifihfiompgaaa
