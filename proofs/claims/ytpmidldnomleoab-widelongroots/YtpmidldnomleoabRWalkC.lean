/-
  Contracts of regattaref01's Words and of regattalaw01's bits and wides: lists of bits as words, and back.
-/
import Derived.Test.YtpmidldnomleoabRWalkB
set_option linter.unusedVariables false
set_option linter.unusedSimpArgs false
namespace Go.Proofs.Ytpmidldnomleoab
open Go.RowKit

def wl (n : Nat) (N : Int) : List Int := (List.range n).map (fun i => N / 2 ^ (64 * i) % 18446744073709551616)
theorem wl_succ (n : Nat) (N : Int) : wl (n + 1) N = wl n N ++ [N / 2 ^ (64 * n) % 18446744073709551616] := by
  unfold wl; rw [List.range_succ, List.map_append]; rfl
theorem wl_get (n : Nat) (N : Int) (i : Nat) (h : i < n) : (wl n N)[i]? = some (N / 2 ^ (64 * i) % 18446744073709551616) := by
  unfold wl; rw [List.getElem?_map, List.getElem?_range h]; rfl
theorem snoc_words (n : Nat) (N z : Int) (hz : z = N / 2 ^ (64 * n) % 18446744073709551616) : (wl n N).map (Value.int .u64) ++ [.int .u64 z] = (wl (n + 1) N).map (Value.int .u64) := by
  rw [wl_succ, List.map_append, hz]; rfl
theorem info_u64 : (Try.prog.info? 22).map (fun i => (i.zero, i.size, i.bytes)) = some (some (.int .u64 0), 1, 8) := by kernel_rfl

theorem mod_two (M : Int) (p : Nat) : (M / 2 % 2 ^ p) * 2 + M % 2 = M % 2 ^ (p + 1) := by
  have hp := pow_pos' p
  have h1 := Int.mul_ediv_add_emod (M / 2) (2 ^ p)
  have m0 := Int.emod_nonneg (M / 2) (show (2 : Int) ^ p ≠ 0 by omega)
  have m1 := Int.emod_lt_of_pos (M / 2) (show (0 : Int) < 2 ^ p by omega)
  have e2 := pow_two p
  have e3 : M = (M / 2 % 2 ^ p * 2 + M % 2) + 2 ^ (p + 1) * (M / 2 / 2 ^ p) := by
    rw [e2, ← Int.two_mul, Int.mul_assoc]
    generalize 2 ^ p * (M / 2 / 2 ^ p) = X at *
    omega
  have e4 : (M / 2 % 2 ^ p * 2 + M % 2) % 2 ^ (p + 1) = M / 2 % 2 ^ p * 2 + M % 2 := Int.emod_eq_of_lt (by omega) (by omega)
  have e5 : M % 2 ^ (p + 1) = ((M / 2 % 2 ^ p * 2 + M % 2) + 2 ^ (p + 1) * (M / 2 / 2 ^ p)) % 2 ^ (p + 1) := congrArg (· % 2 ^ (p + 1)) e3
  rw [e5, Int.add_mul_emod_self_left, e4]
theorem half_at (N : Int) (a : Nat) : N / 2 ^ (a + 1) = N / 2 ^ a / 2 := by
  rw [Int.ediv_ediv_of_nonneg (by have := pow_pos' a; omega), Int.pow_succ]
/-- One bit more at the low end of a word. -/
theorem word_step (N : Int) (a p : Nat) (hp : p ≤ 63) : 0 ≤ N / 2 ^ (a + 1) % 2 ^ p ∧ N / 2 ^ (a + 1) % 2 ^ p ≤ 9223372036854775807 ∧ bits .or .u64 (N / 2 ^ (a + 1) % 2 ^ p * 2) (N / 2 ^ a % 2) = N / 2 ^ a % 2 ^ (p + 1) := by
  have hp0 := pow_pos' p
  have hp1 := pow_le_63 p hp
  have m0 := Int.emod_nonneg (N / 2 ^ (a + 1)) (show (2 : Int) ^ p ≠ 0 by omega)
  have m1 := Int.emod_lt_of_pos (N / 2 ^ (a + 1)) (show (0 : Int) < 2 ^ p by omega)
  refine ⟨m0, by omega, ?_⟩
  rw [or_u64' _ _ 1 (by omega) (by show _ * 2 % 2 = 0; omega) (by omega) (by omega) (by omega) (by show _ % 2 < 2; omega) (by omega), half_at, mod_two]

/-- What a row of words holds, cell by cell. -/
theorem words_form {w : World} {base : Nat} {v : Value} {n : Nat} {N : Int} (h : w.ownsRow base 22 1 v n ((wl n N).map (Value.int .u64))) (hn : 0 < n) :
    ∃ g cap : Nat, v = .slice (some ⟨g, 0, none⟩) n cap ∧ n ≤ cap ∧ cap ≤ maxLen ∧ ∀ k, k < n → w.cell? ⟨g, k, none⟩ = some (.int .u64 (N / 2 ^ (64 * k) % 18446744073709551616)) := by
  rcases h.2 with hz | ⟨g, cap, cur, hv, hbs, hg, h1, h2, h3⟩
  · omega
  · refine ⟨g, cap, hv, h1, h2, fun k hk => ?_⟩
    subst hv
    rw [h.cellAt k (by omega), List.getElem?_map, wl_get n N k hk]
    rfl

end Go.Proofs.Ytpmidldnomleoab
