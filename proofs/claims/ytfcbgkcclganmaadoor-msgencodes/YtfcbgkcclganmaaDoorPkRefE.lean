/-
  The document's reader (regattaref12.R): Fix, Size.
-/
import Derived.Test.YtfcbgkcclganmaaDoorPkRefD
set_option linter.unusedVariables false
set_option linter.unusedSimpArgs false
namespace Go.Proofs.YtfcbgkcclganmaaDoor
open Go.RowKit

theorem getD_take8 (m : List Nat) (i : Nat) (h : i < 8) : (m.take 8).getD i 0 = m.getD i 0 := by
  simp [List.getD, List.getElem?_take, h]
theorem eight_at {l : List Nat} {p i : Nat} (hp : p + 8 ≤ l.length) (hi : i < 8) : deN (((l.drop p).take 8).drop i) = l.getD (p + i) 0 + 256 * deN (((l.drop p).take 8).drop (i + 1)) := by
  have hl : ((l.drop p).take 8).length = 8 := by rw [List.length_take, List.length_drop]; omega
  rw [drop_cons (by omega), getD_take8 _ _ hi, getD_drop]
  rfl
theorem eight_lt {l : List Nat} (hb : ∀ c ∈ l, c < 256) (p i : Nat) (hi : i ≤ 8) : deN (((l.drop p).take 8).drop i) < 256 ^ (8 - i) := by
  have h := deN_lt (((l.drop p).take 8).drop i) (fun c hc => hb c (List.mem_of_mem_drop (List.mem_of_mem_take (List.mem_of_mem_drop hc))))
  have h2 : (((l.drop p).take 8).drop i).length ≤ 8 - i := by rw [List.length_drop, List.length_take]; omega
  exact Nat.lt_of_lt_of_le h (Nat.pow_le_pow_right (by omega) h2)
theorem rF_ok {l : List Nat} (h : 8 ≤ l.length) : rF l = .ok (s64 (deN (l.take 8)), l.drop 8) := by unfold rF; rw [if_neg (by omega)]
theorem rF_no {l : List Nat} (h : l.length < 8) : rF l = .error 120 := by unfold rF; rw [if_pos h]
theorem s64_wrap (n : Nat) (hn : n < 18446744073709551616) : IntKind.i64.wrap (n : Int) = s64 n := by
  rw [IntKind.wrap_i64]; unfold s64; split <;> omega
end Go.Proofs.YtfcbgkcclganmaaDoor
