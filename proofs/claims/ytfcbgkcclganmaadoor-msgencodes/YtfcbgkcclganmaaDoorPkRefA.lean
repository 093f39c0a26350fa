/-
  The document's forms (regattaref12): Uint, Count, Fix; two texts, and two lists of numbers, held against each other.
-/
import Derived.Test.YtfcbgkcclganmaaDoorPkBase
set_option linter.unusedVariables false
set_option linter.unusedSimpArgs false
namespace Go.Proofs.YtfcbgkcclganmaaDoor
open Go.RowKit

set_option maxRecDepth 100000 in
set_option maxHeartbeats 4000000 in
theorem refUint (n : Nat) (hn : n < 18446744073709551616) (w : World) :
    Calls Tryd.prog 44 #[.int .u64 (n : Int)] w fun e w' => ∃ v, e = .returned v ∧ Ob w.heap.size w' v (enU n) ∧ Below w.heap.size w w' := by
  go_enter Tryd.func44, Tryd.ntmps44
  go_upto_region 2 with fail
  go_loopw [0, 3] (fun s0 s3 wr => ∃ (m : Nat) (l : List Nat), m ≤ n ∧ s0 = .int .u64 (m : Int) ∧ Ob w.heap.size wr s3 l ∧ Hid (enU n = l ++ enU m) ∧ Hid (Below w.heap.size w wr)) (fun s0 _ _ => (intOf s0).toNat)
  case atStart => exact ⟨n, [], by omega, rfl, ob_nil _ _, rfl, Below.refl _ _⟩
  case round =>
    obtain ⟨m, l, hm, rfl, hO, HE, HB⟩ := hrel
    have hsz := HB.out.size
    have hl10 : l.length ≤ 10 := by
      have h1 := enU_ten hn
      have h2 := congrArg List.length HE.out
      rw [List.length_append] at h2
      omega
    by_cases hge : 128 ≤ m
    · have hgeI : (128 : Int) ≤ (m : Int) := by omega
      obtain ⟨r, hr⟩ : ∃ r, m % 128 = r := ⟨_, rfl⟩
      obtain ⟨d, hd⟩ : ∃ d, m / 128 = d := ⟨_, rfl⟩
      have hrI : (m : Int).tmod 128 = (r : Int) := by rw [Int.tmod_eq_emod_of_nonneg (by omega)]; omega
      have hdI : (m : Int).tdiv 128 = (d : Int) := by rw [Int.tdiv_eq_ediv_of_nonneg (by omega)]; omega
      have hr2 : r < 128 := by omega
      have hw1 : IntKind.u64.wrap (r : Int) = (r : Int) := by rw [IntKind.wrap_u64]; omega
      have hw2 : IntKind.u64.wrap ((r : Int) + 128) = ((r + 128 : Nat) : Int) := by rw [IntKind.wrap_u64]; omega
      have hw3 : IntKind.u8.wrap ((r + 128 : Nat) : Int) = ((r + 128 : Nat) : Int) := by rw [IntKind.wrap_u8]; omega
      have hw4 : IntKind.u64.wrap (d : Int) = (d : Int) := by rw [IntKind.wrap_u64]; omega
      have HE2 : Hid (enU n = (l ++ [r + 128]) ++ enU d) := by
        show _ = _
        rw [HE.out, enU_ge hge, hr, hd, List.append_assoc]
        rfl
      have hdm : d < m := by omega
      have HO : Hid (Ob w.heap.size wr u3 l) := hO
      clear hO HE hr hd
      go_wp2_with (at_builtin; refine apB rfl _ _ rfl w.heap.size _ _ rfl (HO.out.later (bel1 _ _)) _ _ rfl (bs_one wr (r + 128) _) (by simp; omega) (by simp; omega) ?_; intro v' w3 hO3 hg)
      have HB3 : Hid (Below w.heap.size w w3) := hg.1 _ (HB.out.alloc (by omega) _)
      clear hg HB HO
      go_wp2
      go_roundw
      case rel => exact ⟨d, l ++ [r + 128], by omega, rfl, hO3, HE2, HB3⟩
      case measure => simp only [intOf]; omega
    · have hgeI : ¬ (128 : Int) ≤ (m : Int) := by omega
      have hw3 : IntKind.u8.wrap (m : Int) = (m : Int) := by rw [IntKind.wrap_u8]; omega
      have HO : Hid (Ob w.heap.size wr u3 l) := hO
      have HE2 : Hid (enU n = l ++ [m]) := by
        show _ = _
        rw [HE.out, enU_lt (by omega)]
      clear hO HE
      go_wp2_with (at_builtin; refine apB rfl _ _ rfl w.heap.size _ _ rfl (HO.out.later (bel1 _ _)) _ _ rfl (bs_one wr m _) (by simp; omega) (by simp; omega) ?_; intro v' w3 hO3 hg)
      have HB3 : Hid (Below w.heap.size w w3) := hg.1 _ (HB.out.alloc (by omega) _)
      clear hg HB HO
      obtain ⟨ad, cap, rfl⟩ := hO3.sl
      go_wp2
      go_ret
      exact ⟨_, rfl, by rw [HE2.out]; exact hO3, HB3.out⟩
set_option maxRecDepth 100000 in
set_option maxHeartbeats 4000000 in
theorem refCount (n : Int) (h1 : -9223372036854775808 ≤ n) (h2 : n ≤ 9223372036854775807) (w : World) :
    Calls Tryd.prog 45 #[.int .i64 n] w fun e w' => e = .returned (.int .u64 ((ctI n : Nat) : Int)) ∧ w' = w := by
  by_cases h : n < 0
  · have e1 : IntKind.i64.wrap (n + 1) = n + 1 := by rw [IntKind.wrap_i64]; omega
    have e2 : IntKind.i64.wrap (-(n + 1)) = -(n + 1) := by rw [IntKind.wrap_i64]; omega
    have e3 : IntKind.u64.wrap (-(n + 1)) = -(n + 1) := by rw [IntKind.wrap_u64]; omega
    have e4 : IntKind.u64.wrap (2 * -(n + 1)) = 2 * -(n + 1) := by rw [IntKind.wrap_u64]; omega
    have e5 : IntKind.u64.wrap (2 * -(n + 1) + 1) = ((ctI n : Nat) : Int) := by
      rw [IntKind.wrap_u64]; unfold ctI; rw [if_pos h]; omega
    generalize ctI n = c at *
    go_enter Tryd.func45, Tryd.ntmps45
    go_wp2
    go_ret
    exact ⟨by first | rfl | (congr 2; omega), rfl⟩
  · have e3 : IntKind.u64.wrap n = n := by rw [IntKind.wrap_u64]; omega
    have e5 : IntKind.u64.wrap (2 * n) = ((ctI n : Nat) : Int) := by
      rw [IntKind.wrap_u64]; unfold ctI; rw [if_neg h]; omega
    generalize ctI n = c at *
    go_enter Tryd.func45, Tryd.ntmps45
    go_wp2
    go_ret
    exact ⟨by first | rfl | (congr 2; omega), rfl⟩
theorem enN_snoc (n k : Nat) : enN n (k + 1) = n % 256 :: enN (n / 256) k := rfl
end Go.Proofs.YtfcbgkcclganmaaDoor
