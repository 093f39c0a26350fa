/-
  The contract of regattaref03's Text.
-/
import Derived.Test.YtekdpeiemfppiaaDoorDWalkA
set_option linter.unusedVariables false
set_option linter.unusedSimpArgs false
namespace Go.Proofs.YtekdpeiemfppiaaDoor
open Go.RowKit

/-- The digits behind the point, at most so many. -/
def flf : Nat → Nat → List UInt8
  | 0, _ => []
  | k + 1, r => if r = 0 then [] else dl (10 * r / 4294967296) ++ flf k (10 * r % 4294967296)
/-- A number's text. -/
def tl (a : Int) : List UInt8 := (if a < 0 then [45] else []) ++ dl (a.natAbs / 4294967296) ++ (if a.natAbs % 4294967296 = 0 then [] else 46 :: flf 33 (a.natAbs % 4294967296))
/-- A string's length. -/
def szOf : Value → Nat
  | .string b => b.size
  | _ => 0
theorem flf_zero (k : Nat) : flf k 0 = [] := by cases k <;> rfl
theorem flf_succ (k r : Nat) (h : r ≠ 0) : flf (k + 1) r = dl (10 * r / 4294967296) ++ flf k (10 * r % 4294967296) := by
  show (if r = 0 then [] else _) = _
  rw [if_neg h]
theorem rest_next (r j : Nat) : 10 * (r * 10 ^ j % 4294967296) % 4294967296 = r * 10 ^ (j + 1) % 4294967296 := by
  rw [Nat.pow_succ, ← Nat.mul_assoc, Nat.mul_comm (r * 10 ^ j) 10, Nat.mul_mod, Nat.mod_mod, ← Nat.mul_mod]
theorem rest_end (r : Nat) : r * 10 ^ 32 % 4294967296 = 0 := by
  have h : (10 : Nat) ^ 32 = 4294967296 * 23283064365386962890625 := by decide
  rw [h, ← Nat.mul_assoc, Nat.mul_comm r, Nat.mul_assoc, Nat.mul_mod_right]

set_option maxHeartbeats 2000000 in
theorem stext_any (a : Int) (a0 : -9223372036854775808 ≤ a) (a1 : a ≤ 9223372036854775807) (w : World) :
    Calls Tryd.prog 11 #[.int .i64 a] w fun e w' => e = .returned (.string (bs (tl a))) ∧ Below w.heap.size w w' := by
  have hab : ab a = (a.natAbs : Int) := by unfold ab; split <;> omega
  have hm : a.natAbs ≤ 9223372036854775808 := by omega
  have SZ : Hid (∀ W : World, Calls Tryd.prog 22 #[.int .i64 a] W fun e w' => e = .returned (.int .u64 (a.natAbs : Int)) ∧ w' = W) := by
    intro W
    rw [← hab]
    exact ssize_any a a0 a1 W
  unfold tl
  clear hab
  generalize a.natAbs = m at *
  have DG : Hid (∀ W : World, Calls Tryd.prog 23 #[.int .u64 ((m : Int) / 4294967296)] W fun e w' => e = .returned (.string (bs (dl (m / 4294967296)))) ∧ Below W.heap.size W w') := by
    intro W
    have h := sdigits_any _ (m / 4294967296) (Nat.le_refl _) (by omega) W
    rw [show ((m / 4294967296 : Nat) : Int) = (m : Int) / 4294967296 by omega] at h
    exact h
  obtain ⟨l0, l1⟩ := dl_len20 (m / 4294967296) (by omega)
  generalize hD : dl (m / 4294967296) = l at *
  clear hD
  have m0 : (0 : Int) ≤ (m : Int) := by omega
  have t1 := Int.tmod_eq_emod_of_nonneg (b := 4294967296) m0
  have t2 := Int.tdiv_eq_ediv_of_nonneg (b := 4294967296) m0
  have w1 := wrap_small ((m : Int) % 4294967296) (by omega) (by omega)
  have w2 := wrap_small ((m : Int) / 4294967296) (by omega) (by omega)
  have z1 := bs_size l
  obtain ⟨r, hr⟩ : ∃ r : Nat, m % 4294967296 = r := ⟨_, rfl⟩
  have hr1 : r < 4294967296 := by omega
  have hr2 : (m : Int) % 4294967296 = (r : Int) := by omega
  rw [hr] at *
  rw [hr2] at w1
  obtain ⟨p0, hp0⟩ : ∃ p0 : List UInt8, (if a < 0 then [45] else []) ++ l = p0 := ⟨_, rfl⟩
  rw [hp0]
  have hl0 : p0.length ≤ 21 := by rw [← hp0]; split <;> simp <;> omega
  obtain ⟨T, hT⟩ : ∃ T : List UInt8, p0 ++ (if r = 0 then [] else 46 :: flf 33 r) = T := ⟨_, rfl⟩
  rw [hT]
  have HT : Hid (p0 ++ (if r = 0 then [] else 46 :: flf 33 r) = T) := hT
  clear hT
  have hP : Hid (bs (if a < 0 then [45] else []) ++ bs l = bs p0) := by show _ = _; rw [bs_app, hp0]
  go_enter Tryd.func11, Tryd.ntmps11
  go_wp2_with fail
  refine (SZ.out _).mono ?_
  rintro e wz ⟨rfl, hz⟩
  subst hz
  clear SZ
  go_wp2_with fail
  refine (DG.out _).mono ?_
  rintro e w3 ⟨rfl, W3⟩
  clear DG
  go_upto_if 12 with fail
  go_cut [4] (fun s4 wc => s4 = .string (bs p0) ∧ Below wz.heap.size wz wc)
  case first =>
    by_cases hn : a < 0
    · have hP2 : Hid (bs [45] ++ bs l = bs p0) := by
        have h := hP.out
        rw [if_pos hn] at h
        exact h
      have z0 : (bs [45]).size = 1 := rfl
      go_wp2
      go_meet
      exact ⟨by rw [← hP2.out]; rfl, W3⟩
    · have hP2 : Hid (bs l = bs p0) := by
        show _ = _
        rw [if_neg hn] at hp0
        rw [← hp0]
        rfl
      go_wp2
      go_meet
      exact ⟨by rw [hP2.out], W3⟩
  case rest =>
    obtain ⟨rfl, W4⟩ := hcut
    clear W3 hP hp0
    have z2 := bs_size p0
    by_cases hr0 : r = 0
    · have HT2 : Hid (bs p0 = bs T) := by
        have h := HT.out
        rw [if_pos hr0, List.append_nil] at h
        show _ = _
        rw [h]
      have hr3 : (m : Int) % 4294967296 = 0 := by omega
      clear hr2 w1 HT
      go_wp2
      go_ret
      exact ⟨by rw [← HT2.out]; rfl, W4⟩
    · have HT2 : Hid ((p0 ++ [46]) ++ flf 33 r = T) := by
        have h := HT.out
        rw [if_neg hr0] at h
        show _ = _
        rw [← h, List.append_assoc]
        rfl
      clear HT
      have hr3 : ¬ (r : Int) = 0 := by omega
      have hr4 : ((r : Int) == 0) = false := by simpa using hr0
      have z3 : (bs [46]).size = 1 := rfl
      go_wp2
      go_loopw [4, 5] (fun s4 s5 wr => ∃ (j : Nat) (p : List UInt8), j ≤ 32 ∧ p.length ≤ 22 + j ∧ s4 = .string (bs p) ∧ s5 = .int .u64 ((r * 10 ^ j % 4294967296 : Nat) : Int) ∧ p ++ flf (33 - j) (r * 10 ^ j % 4294967296) = T ∧ Below wz.heap.size wz wr) (fun s4 _ _ => 100 - szOf s4)
      case atStart =>
        refine ⟨0, p0 ++ [46], by omega, by simp; omega, ?_, ?_, ?_, W4⟩
        · rw [← bs_app]; rfl
        · rw [Nat.pow_zero, Nat.mul_one, Nat.mod_eq_of_lt hr1]
        · rw [Nat.pow_zero, Nat.mul_one, Nat.mod_eq_of_lt hr1]; exact HT2.out
      case round =>
        clear W4
        obtain ⟨j, p, hj, hpl, rfl, rfl, hE, hW⟩ := hrel
        have HE : Hid (p ++ flf (33 - j) (r * 10 ^ j % 4294967296) = T) := hE
        have HJ : Hid (j = 32 → r * 10 ^ j % 4294967296 = 0) := fun h => by rw [h]; exact rest_end r
        have HN := rest_next r j
        have hx : r * 10 ^ j % 4294967296 < 4294967296 := Nat.mod_lt _ (by omega)
        have HN' : Hid (10 * (r * 10 ^ j % 4294967296) % 4294967296 = r * 10 ^ (j + 1) % 4294967296) := HN
        clear HN hE
        generalize r * 10 ^ j % 4294967296 = x at *
        have z4 := bs_size p
        by_cases hx0 : x = 0
        · have HE2 : Hid (bs p = bs T) := by
            have h := HE.out
            rw [hx0, flf_zero, List.append_nil] at h
            show _ = _
            rw [h]
          have hx1 : (x : Int) = 0 := by omega
          clear HE HJ HN'
          go_wp2
          go_ret
          exact ⟨by rw [← HE2.out]; rfl, hW⟩
        · have hj2 : j < 32 := by
            rcases Nat.lt_or_ge j 32 with h | h
            · exact h
            · exact absurd (HJ.out (by omega)) hx0
          have hx1 : ¬ (x : Int) = 0 := by omega
          have DG2 : Hid (∀ W : World, Calls Tryd.prog 23 #[.int .u64 (10 * (x : Int) / 4294967296)] W fun e w' => e = .returned (.string (bs (dl (10 * x / 4294967296)))) ∧ Below W.heap.size W w') := by
            intro W
            have h := sdigits_any _ (10 * x / 4294967296) (Nat.le_refl _) (by omega) W
            rw [show ((10 * x / 4294967296 : Nat) : Int) = 10 * (x : Int) / 4294967296 by omega] at h
            exact h
          have hd1 : (dl (10 * x / 4294967296)).length = 1 := by rw [dl_lt _ (by omega)]; rfl
          have HE2 : Hid ((p ++ dl (10 * x / 4294967296)) ++ flf (33 - (j + 1)) (r * 10 ^ (j + 1) % 4294967296) = T) := by
            have h := HE.out
            rw [show 33 - j = (33 - (j + 1)) + 1 by omega, flf_succ _ _ hx0, HN'.out, ← List.append_assoc] at h
            exact h
          have z5 := bs_size (dl (10 * x / 4294967296))
          generalize dl (10 * x / 4294967296) = q at *
          have x0 : (0 : Int) ≤ 10 * (x : Int) := by omega
          have u1 := Int.tmod_eq_emod_of_nonneg (b := 4294967296) x0
          have u2 := Int.tdiv_eq_ediv_of_nonneg (b := 4294967296) x0
          have v0 := wrap_small (10 * (x : Int)) (by omega) (by omega)
          have v1 := wrap_small (10 * (x : Int) % 4294967296) (by omega) (by omega)
          have v2 := wrap_small (10 * (x : Int) / 4294967296) (by omega) (by omega)
          have HX : Hid (10 * (x : Int) % 4294967296 = ((r * 10 ^ (j + 1) % 4294967296 : Nat) : Int)) := by
            show _ = _
            rw [← HN'.out]
            omega
          clear HE HJ HN'
          go_wp2_with fail
          refine (DG2.out _).mono ?_
          rintro e w5 ⟨rfl, hb⟩
          have W5 := bchain hW hb
          clear hb hW DG2
          go_wp2
          go_roundw
          case rel => exact ⟨j + 1, p ++ q, by omega, by rw [List.length_append]; omega, by rw [← bs_app], by rw [HX.out], HE2.out, W5⟩
          case measure =>
            have hs : (bs p ++ bs q).size = p.length + 1 := by rw [bs_app, bs_size, List.length_append, hd1]
            show 100 - (bs p ++ bs q).size < 100 - (bs p).size
            rw [hs, z4]
            omega
end Go.Proofs.YtekdpeiemfppiaaDoor
