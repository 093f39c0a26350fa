/-
  The contract of regattaref03's times: lists of decimal digits, the lowest first.
-/
import Derived.Test.YtekdpeiemfppiabDoorDWalkD
set_option linter.unusedVariables false
set_option linter.unusedSimpArgs false
namespace Go.Proofs.YtekdpeiemfppiabDoor
open Go.RowKit

theorem dbelow_grown {w wr w1 : World} {e : TypeId} {size : Nat} {v : Value} {n : Nat} {xs : List Value} {o : Obj} (h : wr.ownsRow w.heap.size e size v n xs) (hW : Below w.heap.size w wr) (hg : (wr.alloc o).grownBy w1 v.ownBlock) : Below w.heap.size w w1 := by
  refine (hW.alloc hW.size o).grown hg ?_ ?_
  · have := hW.size; simp; omega
  · intro k hk
    exact (h.lt k hk).1
/-- A digit of a number. -/
def dd (M i : Nat) : Nat := M / 10 ^ i % 10
theorem dd_lt (M i : Nat) : dd M i < 10 := Nat.mod_lt _ (by omega)
/-- So many digits. -/
def ol (m M : Nat) : List Int := (List.range m).map (fun i => ((dd M i : Nat) : Int))
theorem ol_succ (m M : Nat) : ol (m + 1) M = ol m M ++ [((dd M m : Nat) : Int)] := by unfold ol; rw [List.range_succ, List.map_append]; rfl
theorem ol_get (m M i : Nat) (h : i < m) : (ol m M)[i]? = some ((dd M i : Nat) : Int) := by unfold ol; rw [List.getElem?_map, List.getElem?_range h]; rfl
theorem snoc_dig (m M : Nat) (z : Int) (hz : z = ((dd M m : Nat) : Int)) : (ol m M).map (Value.int .u64) ++ [.int .u64 z] = (ol (m + 1) M).map (Value.int .u64) := by
  rw [ol_succ, List.map_append, hz]; rfl
theorem dinfo_u64 : (Tryd.prog.info? 36).map (fun i => (i.zero, i.size, i.bytes)) = some (some (.int .u64 0), 1, 8) := by kernel_rfl
/-- A slice in memory that holds the m lowest digits of M. -/
def Dw (w : World) (v : Value) (m M : Nat) : Prop :=
  ∃ g cap : Nat, v = .slice (some ⟨g, 0, none⟩) m cap ∧ m ≤ cap ∧ cap ≤ maxLen ∧ ∀ k, k < m → w.cell? ⟨g, k, none⟩ = some (.int .u64 ((dd M k : Nat) : Int))
theorem Dw.later {w w' : World} {v : Value} {m M : Nat} (h : Dw w v m M) (hb : Below w.heap.size w w') : Dw w' v m M := by
  obtain ⟨g, cap, hv, h1, h2, hc⟩ := h
  exact ⟨g, cap, hv, h1, h2, fun k hk => cell_later hb (hc k hk)⟩
theorem Dw.of_own {w : World} {base : Nat} {v : Value} {m M : Nat} (h : w.ownsRow base 36 1 v m ((ol m M).map (Value.int .u64))) (hm : 0 < m) : Dw w v m M := by
  rcases h.2 with hn | ⟨g, cap, cur, hv, hbs, hg, h1, h2, h3⟩
  · omega
  · refine ⟨g, cap, hv, h1, h2, fun k hk => ?_⟩
    subst hv
    rw [h.cellAt k (by omega), List.getElem?_map, ol_get m M k hk]
    rfl

/-- What is carried. -/
def cy (M n i : Nat) : Nat := (M % 10 ^ i) * n / 10 ^ i
theorem dmod_up (M i : Nat) : M % 10 ^ (i + 1) = dd M i * 10 ^ i + M % 10 ^ i := by
  unfold dd
  rw [Nat.pow_succ, Nat.mod_mul, Nat.mul_comm (M / 10 ^ i % 10)]
  omega
theorem ten_pos (i : Nat) : 0 < 10 ^ i := Nat.pow_pos (by omega)
theorem cy_zero (M n : Nat) : cy M n 0 = 0 := by unfold cy; rw [Nat.pow_zero, Nat.mod_one]; simp
theorem cy_lt (M n i : Nat) (hn : 0 < n) : cy M n i < n := by
  unfold cy
  have hp := ten_pos i
  rw [Nat.div_lt_iff_lt_mul hp, Nat.mul_comm n]
  exact Nat.mul_lt_mul_of_pos_right (Nat.mod_lt _ hp) hn
theorem cy_step (M n i : Nat) : cy M n i + dd M i * n = (M % 10 ^ (i + 1)) * n / 10 ^ i := by
  have hp := ten_pos i
  unfold cy
  have e : (dd M i * 10 ^ i + M % 10 ^ i) * n = 10 ^ i * (dd M i * n) + M % 10 ^ i * n := by rw [Nat.add_mul, Nat.mul_comm (dd M i) (10 ^ i), Nat.mul_assoc]
  rw [dmod_up, e, Nat.mul_add_div hp, Nat.add_comm]
theorem dig_prod (M n i : Nat) : (cy M n i + dd M i * n) % 10 = dd (M * n) i := by
  rw [cy_step]
  unfold dd
  have h1 : M * n / 10 ^ i % 10 = (M * n % 10 ^ (i + 1)) / 10 ^ i := by
    rw [Nat.pow_succ, Nat.mod_mul_right_div_self]
  have h2 : (M % 10 ^ (i + 1)) * n / 10 ^ i % 10 = ((M % 10 ^ (i + 1)) * n % 10 ^ (i + 1)) / 10 ^ i := by
    rw [Nat.pow_succ, Nat.mod_mul_right_div_self]
  rw [h1, h2, Nat.mod_mul_mod]
theorem cy_next (M n i : Nat) : (cy M n i + dd M i * n) / 10 = cy M n (i + 1) := by
  rw [cy_step]
  unfold cy
  rw [Nat.div_div_eq_div_mul, Nat.pow_succ]
theorem dd_none (M m i : Nat) (hM : M < 10 ^ m) (h : m ≤ i) : dd M i = 0 := by
  unfold dd
  rw [Nat.div_eq_of_lt (Nat.lt_of_lt_of_le hM (Nat.pow_le_pow_right (by omega) h))]
theorem cy_end (M n m i : Nat) (hM : M < 10 ^ m) (h : m ≤ i) (hc : cy M n i = 0) : M * n < 10 ^ i := by
  have hp := ten_pos i
  unfold cy at hc
  rw [Nat.mod_eq_of_lt (Nat.lt_of_lt_of_le hM (Nat.pow_le_pow_right (by omega) h))] at hc
  exact (Nat.div_eq_zero_iff_lt hp).1 hc
theorem cy_far (M m i : Nat) (hM : M < 10 ^ m) (h : m + 10 ≤ i) : cy M 4294967296 i = 0 := by
  have hp := ten_pos i
  unfold cy
  rw [Nat.mod_eq_of_lt (Nat.lt_of_lt_of_le hM (Nat.pow_le_pow_right (by omega) (by omega)))]
  refine Nat.div_eq_of_lt ?_
  have h1 : M * 4294967296 < 10 ^ m * 10 ^ 10 := by
    exact Nat.lt_of_le_of_lt (Nat.mul_le_mul_right 4294967296 (Nat.le_of_lt hM)) (Nat.mul_lt_mul_of_pos_left (by decide) (ten_pos m))
  rw [← Nat.pow_add] at h1
  exact Nat.lt_of_lt_of_le h1 (Nat.pow_le_pow_right (by omega) h)

end Go.Proofs.YtekdpeiemfppiabDoor
